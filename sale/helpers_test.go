package sale_test

import (
	"fmt"
	"math"
	"math/rand"
	"slices"
	"strconv"
	"sync"
	"testing"

	"duodecimo/api"
	"duodecimo/sale"
)

// The lots of the chapter's example.
const (
	bible = 0
	atlas = 1
	fan   = 2
)

func step(from, by int) api.SaStep { return api.SaStep{From: from, By: by} }

func lot(name string, seller, reserve int) api.SaLot {
	return api.SaLot{Name: name, Seller: seller, Reserve: reserve}
}

// defect is a defective lot.
func defect(name string, seller, reserve int) api.SaLot {
	l := lot(name, seller, reserve)
	l.Defect = true
	return l
}

func bid(bidder, lot, most int) api.SaBid { return api.SaBid{Bidder: bidder, Lot: lot, Most: most} }

func back(lot, day int) api.SaReturn { return api.SaReturn{Lot: lot, Day: day} }

func span(lo, hi int) api.Span { return api.Span{Lo: lo, Hi: hi} }

// sold is an entry of a lot that was sold.
func sold(lot, lo, hi int) api.SaEntry {
	return api.SaEntry{Lot: lot, Sold: true, Price: span(lo, hi)}
}

// unsold is an entry of a lot that was not sold.
func unsold(lot int) api.SaEntry { return api.SaEntry{Lot: lot} }

func result(bidder, price int) api.SaResult { return api.SaResult{Bidder: bidder, Price: price} }

// nobody is the result of a lot that was not sold.
func nobody() api.SaResult { return result(api.SaNobody, 0) }

// list is a list of numbers, as short as it can be written.
func list(numbers ...int) []int { return numbers }

// rows is a list of lists.
func rows(lists ...[]int) [][]int { return lists }

// entries is a catalogue.
func entries(some ...api.SaEntry) []api.SaEntry { return some }

// example is S of the chapter's examples.
func example() api.SaSale {
	return api.SaSale{
		Steps:   []api.SaStep{step(0, 5), step(50, 10)},
		Premium: 100, Fee: 150, Days: 14,
		Bidders: []string{"ann", "ben", "cid", "dot"},
		Sellers: []string{"duke"},
		Lots:    []api.SaLot{defect("bible", 0, 20), lot("atlas", 0, 48), lot("fan", 0, 30)},
		Bids:    []api.SaBid{bid(0, bible, 62), bid(1, bible, 41), bid(2, bible, 55), bid(1, atlas, 90), bid(3, atlas, 70), bid(3, fan, 25)},
	}
}

// but is the example after a change.
func but(change func(*api.SaSale)) api.SaSale {
	s := example()
	change(&s)
	return s
}

// named are so many names that begin with a letter.
func named(letter string, many int) []string {
	var names []string
	for n := range many {
		names = append(names, letter+strconv.Itoa(n))
	}
	return names
}

// oneLot is a sale of one lot, for which the bidders give so much, one behind the other; nothing, if it is 0.
func oneLot(steps []api.SaStep, reserve int, mosts ...int) api.SaSale {
	s := api.SaSale{Steps: steps, Bidders: named("b", len(mosts)), Sellers: []string{"s"}, Lots: []api.SaLot{lot("l", 0, reserve)}}
	for b, most := range mosts {
		if most > 0 {
			s.Bids = append(s.Bids, bid(b, 0, most))
		}
	}
	return s
}

// fives are steps of 5.
func fives() []api.SaStep { return []api.SaStep{step(0, 5)} }

// full is a sale with as many steps, bidders, sellers, lots and bids as there can be.
func full() api.SaSale {
	s := api.SaSale{Premium: api.MaxSaMille, Fee: api.MaxSaMille, Days: api.MaxSaDays, Bidders: named("b", api.MaxSaBidders), Sellers: named("s", api.MaxSaSellers)}
	for n := range api.MaxSaSteps {
		s.Steps = append(s.Steps, step(100*n, 1+3*n))
	}
	for n := range api.MaxSaLots {
		s.Lots = append(s.Lots, defect("l"+strconv.Itoa(n), n%api.MaxSaSellers, 1+20*n))
	}
	for n := range api.MaxSaBids {
		s.Bids = append(s.Bids, bid(n%api.MaxSaBidders, n/3, 110+37*n%400))
	}
	return s
}

// cloned is a sale that shares no memory with the other one.
func cloned(s api.SaSale) api.SaSale {
	s.Steps, s.Bidders, s.Sellers = slices.Clone(s.Steps), slices.Clone(s.Bidders), slices.Clone(s.Sellers)
	s.Lots, s.Bids = slices.Clone(s.Lots), slices.Clone(s.Bids)
	return s
}

// same reports whether two sales are the same.
func same(s, other api.SaSale) bool {
	return slices.Equal(s.Steps, other.Steps) && s.Premium == other.Premium && s.Fee == other.Fee && s.Days == other.Days && slices.Equal(s.Bidders, other.Bidders) && slices.Equal(s.Sellers, other.Sellers) && slices.Equal(s.Lots, other.Lots) && slices.Equal(s.Bids, other.Bids)
}

// upTo are the numbers below many, ascending.
func upTo(many int) []int {
	var numbers []int
	for n := range many {
		numbers = append(numbers, n)
	}
	return numbers
}

// parts are all parts of a list, compared number by number, so that none comes first.
func parts(of []int) [][]int {
	all := [][]int{nil}
	for i, n := range of {
		for _, behind := range parts(of[i+1:]) {
			all = append(all, append(list(n), behind...))
		}
	}
	return all
}

// shortFirst are all parts of a list, the shorter ones first, then compared number by number.
func shortFirst(of []int) [][]int {
	all := parts(of)
	slices.SortStableFunc(all, func(a, b []int) int { return len(a) - len(b) })
	return all
}

// allRings are, by how many bidders there are, all rings in their order.
var allRings = sync.OnceValue(func() [][][]int {
	var all [][][]int
	for many := range api.MaxSaBidders + 1 {
		all = append(all, slices.DeleteFunc(shortFirst(upTo(many)), func(ring []int) bool { return len(ring) == 1 }))
	}
	return all
})

// ringsOf are all rings of a sale, in their order.
func ringsOf(s api.SaSale) [][]int { return allRings()[len(s.Bidders)] }

// without is a list without the numbers of another one.
func without(numbers, others []int) []int {
	return slices.DeleteFunc(slices.Clone(numbers), func(n int) bool { return slices.Contains(others, n) })
}

// left are the entries of a catalogue without those at some places.
func left(l []api.SaEntry, places []int) []api.SaEntry {
	var others []api.SaEntry
	for i, x := range l {
		if !slices.Contains(places, i) {
			others = append(others, x)
		}
	}
	return others
}

// sum is a sum of numbers.
func sum(numbers []int) int {
	all := 0
	for _, n := range numbers {
		all += n
	}
	return all
}

// question is a sale, and what is asked about it, besides of all rings.
type question struct {
	api.SaSale
	prices     []int
	returns    [][]api.SaReturn
	catalogues [][]api.SaEntry
}

// following is what Next says.
type following struct {
	price int
	e     api.Errno
}

// bought is what Sell says.
type bought struct {
	results []api.SaResult
	e       api.Errno
}

// accounted is what Account says.
type accounted struct {
	bidders, sellers []int
	house            int
	e                api.Errno
}

// numbered is what Share and Wrong say.
type numbered struct {
	numbers []int
	e       api.Errno
}

// suspected is what Rings says.
type suspected struct {
	rings [][]int
	e     api.Errno
}

// known is what Members says.
type known struct {
	must, may []int
	e         api.Errno
}

// told is what all functions but Check say of a question.
type told struct {
	next    []following   // of all prices
	sell    []bought      // of all rings
	account [][]accounted // by rings, of all returns
	share   []numbered    // of all rings
	rings   []suspected   // of all catalogues
	members []known       // of all catalogues
	wrong   []numbered    // of all catalogues
}

func next(s api.SaSale, price int) following {
	price, e := sale.Next(s, price)
	return following{price, e}
}

func sell(s api.SaSale, ring []int) bought {
	results, e := sale.Sell(s, ring)
	return bought{results, e}
}

func account(s api.SaSale, ring []int, returns []api.SaReturn) accounted {
	bidders, sellers, house, e := sale.Account(s, ring, returns)
	return accounted{bidders, sellers, house, e}
}

func share(s api.SaSale, ring []int) numbered {
	shares, e := sale.Share(s, ring)
	return numbered{shares, e}
}

func rings(s api.SaSale, l []api.SaEntry) suspected {
	rings, e := sale.Rings(s, l)
	return suspected{rings, e}
}

func members(s api.SaSale, l []api.SaEntry) known {
	must, may, e := sale.Members(s, l)
	return known{must, may, e}
}

func wrong(s api.SaSale, l []api.SaEntry) numbered {
	entries, e := sale.Wrong(s, l)
	return numbered{entries, e}
}

// tell asks all functions but Check.
func tell(q question) told {
	var x told
	for _, p := range q.prices {
		x.next = append(x.next, next(q.SaSale, p))
	}
	for i, ring := range ringsOf(q.SaSale) {
		x.sell = append(x.sell, sell(q.SaSale, ring))
		x.account = append(x.account, nil)
		for _, r := range q.returns {
			x.account[i] = append(x.account[i], account(q.SaSale, ring, r))
		}
		x.share = append(x.share, share(q.SaSale, ring))
	}
	for _, l := range q.catalogues {
		x.rings = append(x.rings, rings(q.SaSale, l))
		x.members = append(x.members, members(q.SaSale, l))
		x.wrong = append(x.wrong, wrong(q.SaSale, l))
	}
	return x
}

// differ says in what two answers differ.
func differ(x, y told) string {
	for _, c := range []struct {
		what string
		x, y any
	}{
		{"Next", x.next, y.next}, {"Sell", x.sell, y.sell}, {"Account", x.account, y.account}, {"Share", x.share, y.share}, {"Rings", x.rings, y.rings}, {"Members", x.members, y.members}, {"Wrong", x.wrong, y.wrong},
	} {
		if !alike(c.x, c.y) {
			return c.what
		}
	}
	return ""
}

// alike reports whether two things are printed the same, as a nil list and an empty one are.
func alike(x, y any) bool { return fmt.Sprint(x) == fmt.Sprint(y) }

// expect checks what was told.
func expect(t *testing.T, what string, got, want any) {
	t.Helper()
	if !alike(got, want) {
		t.Errorf("%s = %v, not %v", what, got, want)
	}
}

// inAll makes what is said of each of so many things, some at a time.
func inAll[T any](many int, say func(int) T) []T {
	things := make([]T, many)
	var wait sync.WaitGroup
	places := make(chan bool, 16)
	for i := range many {
		places <- true
		wait.Go(func() {
			things[i] = say(i)
			<-places
		})
	}
	wait.Wait()
	return things
}

// numbers are ints far beyond all limits, and about some.
func numbers(limits ...int) []int {
	far := list(math.MinInt, math.MinInt+1, -2, -1, math.MaxInt-1, math.MaxInt)
	for _, n := range limits {
		far = append(far, n-1, n, n+1)
	}
	return far
}

// seed is from where random numbers of a test start.
func seed(n int64) *rand.Rand { return rand.New(rand.NewSource(n)) }

// oneOf is one of some things.
func oneOf[T any](r *rand.Rand, things ...T) T { return things[r.Intn(len(things))] }
