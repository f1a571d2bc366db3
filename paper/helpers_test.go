package paper_test

import (
	"fmt"
	"math"
	"slices"
	"sync"
	"testing"

	"duodecimo/api"
	"duodecimo/paper"
)

// The stocks of the chapter's examples.
const (
	horn   = 0
	pot    = 1
	grapes = 2
)

func span(lo, hi int) api.Span { return api.Span{Lo: lo, Hi: hi} }

func stock(name string, lo, hi int) api.PpStock {
	return api.PpStock{Name: name, Made: span(lo, hi)}
}

func ream(stock, lo, hi int) api.PpReam {
	return api.PpReam{Stock: stock, Sheets: span(lo, hi)}
}

func seen(gathering, stock int) api.PpSeen {
	return api.PpSeen{Gathering: gathering, Stock: stock}
}

// example is C of the chapter's examples, with further things seen.
func example(further ...api.PpSeen) api.PpCase {
	return api.PpCase{
		Run:        10,
		Stocks:     []api.PpStock{stock("horn", 1600, 1602), stock("pot", 1605, 1605), stock("grapes", 1603, 1610)},
		Reams:      []api.PpReam{ream(horn, 15, 16), ream(pot, 10, 10), ream(grapes, 8, 9)},
		Gatherings: 3,
		Seen:       append([]api.PpSeen{seen(0, pot), seen(1, horn)}, further...),
	}
}

// contradictory is the example in which not all that is seen can be true.
func contradictory() api.PpCase { return example(seen(0, horn), seen(0, grapes)) }

// tooSmall is the example with a pile that is one sheet too small.
func tooSmall() api.PpCase {
	return caseOf(12, 3, []api.PpReam{ream(0, 15, 16), ream(1, 9, 10), ream(2, 9, 9)})
}

// caseOf is a case of three stocks.
func caseOf(run, gatherings int, reams []api.PpReam, list ...api.PpSeen) api.PpCase {
	c := example()
	c.Run, c.Gatherings, c.Reams, c.Seen = run, gatherings, reams, list
	return c
}

// cloned is a case that shares no memory with the other one.
func cloned(c api.PpCase) api.PpCase {
	c.Stocks, c.Reams, c.Seen = slices.Clone(c.Stocks), slices.Clone(c.Reams), slices.Clone(c.Seen)
	return c
}

// same reports whether two cases are the same.
func same(c, d api.PpCase) bool {
	return c.Run == d.Run && c.Gatherings == d.Gatherings && slices.Equal(c.Stocks, d.Stocks) && slices.Equal(c.Reams, d.Reams) && slices.Equal(c.Seen, d.Seen)
}

// seeing is a case with other things seen.
func seeing(c api.PpCase, list ...api.PpSeen) api.PpCase {
	c = cloned(c)
	c.Seen = slices.Clone(list)
	return c
}

// without is a case without some of the things seen.
func without(c api.PpCase, some []int) api.PpCase {
	c = cloned(c)
	for _, i := range slices.Backward(some) {
		c.Seen = slices.Delete(c.Seen, i, i+1)
	}
	return c
}

// counted are all lists of n digits below base, counted up.
func counted(base, n int) [][]int {
	list := [][]int{{}}
	for range n {
		var longer [][]int
		for _, l := range list {
			for digit := range base {
				longer = append(longer, append(slices.Clone(l), digit))
			}
		}
		list = longer
	}
	return list
}

// permuted are, by how many numbers, all lists that have each number once, in their order.
var permuted = sync.OnceValue(func() [][][]int {
	var all [][][]int
	for n := range api.MaxPpGatherings + 1 {
		var list [][]int
		for _, l := range counted(n, n) {
			met := map[int]bool{}
			for _, digit := range l {
				met[digit] = true
			}
			if len(met) == n {
				list = append(list, l)
			}
		}
		all = append(all, list)
	}
	return all
})

// subsets are all lists of numbers below n, ascending: the shortest come first, of those that are as long the first ones compared number by number.
func subsets(n int) [][]int {
	var list [][]int
	for bits := range 1 << n {
		var l []int
		for i := range n {
			if bits>>i&1 == 1 {
				l = append(l, i)
			}
		}
		list = append(list, l)
	}
	slices.SortFunc(list, func(a, b []int) int {
		if len(a) != len(b) {
			return len(a) - len(b)
		}
		return slices.Compare(a, b)
	})
	return list
}

// table says of each place or gathering of which stocks it has sheets.
type table [api.MaxPpGatherings][api.MaxPpStocks]bool

// laid is a pile that is enough, sheet by sheet.
type laid struct {
	places     table
	printedOn  [api.MaxPpStocks]bool
	left, many int // how many sheets are left, and of how many reams one was used
}

// lay lays a pile whose reams have so many sheets, and takes from its top what each place has.
func lay(c api.PpCase, sheets []int) (laid, bool) {
	var pile []int // the ream of each sheet
	for i, n := range sheets {
		for range n {
			pile = append(pile, i)
		}
	}
	if len(pile) < c.Run*c.Gatherings {
		return laid{}, false
	}
	var l laid
	reams := map[int]bool{}
	for place := range c.Gatherings {
		for _, i := range pile[:c.Run] {
			reams[i] = true
			l.places[place][c.Reams[i].Stock] = true
			l.printedOn[c.Reams[i].Stock] = true
		}
		pile = pile[c.Run:]
	}
	l.left, l.many = len(pile), len(reams)
	return l, true
}

// pilesOf are all piles of a case that are enough.
func pilesOf(c api.PpCase) []laid {
	var list []laid
	for _, more := range counted(api.MaxPpWide+1, len(c.Reams)) {
		var sheets []int
		for i, r := range c.Reams {
			if n := r.Sheets.Lo + more[i]; n <= r.Sheets.Hi {
				sheets = append(sheets, n)
			}
		}
		if len(sheets) < len(c.Reams) {
			continue
		}
		if l, can := lay(c, sheets); can {
			list = append(list, l)
		}
	}
	return list
}

// given is a truth: a pile, and an order.
type given struct {
	laid
	order []int
	on    table // the stocks of each gathering
}

// giving is the truth of a pile and an order.
func giving(l laid, order []int) given {
	g := given{laid: l, order: order}
	for place, gathering := range order {
		g.on[gathering] = l.places[place]
	}
	return g
}

// agrees reports whether a truth agrees with what is seen.
func (g given) agrees(list []api.PpSeen) bool {
	for _, s := range list {
		if !g.on[s.Gathering][s.Stock] {
			return false
		}
	}
	return true
}

// truthsOf are all truths of a case, by their orders; those of the same order and stocks are not told apart by what is seen, but by what is left.
func truthsOf(c api.PpCase) []given {
	var list []given
	piles := pilesOf(c)
	for _, order := range permuted()[c.Gatherings] {
		for _, l := range piles {
			list = append(list, giving(l, order))
		}
	}
	return list
}

// agreeing are those truths of some that agree with what is seen.
func agreeing(truths []given, list []api.PpSeen) []given {
	return slices.DeleteFunc(slices.Clone(truths), func(g given) bool { return !g.agrees(list) })
}

// ordersOf are the orders of truths, each one once.
func ordersOf(truths []given) [][]int {
	met := map[string]bool{}
	var list [][]int
	for _, g := range truths {
		if key := fmt.Sprint(g.order); !met[key] {
			met[key] = true
			list = append(list, g.order)
		}
	}
	slices.SortFunc(list, slices.Compare)
	return list
}

// reaching is the least and the greatest of some numbers.
func reaching(list []int) api.Span { return span(slices.Min(list), slices.Max(list)) }

// yearsOf are all years that can be the latest one in which one of some stocks was made, by trying all years.
func yearsOf(c api.PpCase, printedOn [api.MaxPpStocks]bool) []int {
	var list []int
	for year := api.MinYear; year <= api.MaxYear; year++ {
		no, one := false, false // whether some stock is younger, and whether one can be just of this year
		for i, s := range c.Stocks {
			if printedOn[i] {
				no = no || s.Made.Lo > year
				one = one || s.Made.Lo <= year && year <= s.Made.Hi
			}
		}
		if one && !no {
			list = append(list, year)
		}
	}
	return list
}

// told is what all functions but Check say of a case.
type told struct {
	zero          api.Errno // of all functions but Wrong
	orders        [][]int
	before        [][]int
	sure, may     [][]int
	sheets, reams api.Span
	years         api.Span
	wrong         []int
	down          api.Errno // of Wrong
	gathering     int
	left          int // how many orders Ask leaves at worst
}

// tell asks all functions but Check of a case without an error.
func tell(t *testing.T, c api.PpCase) told {
	t.Helper()
	var a told
	expect := func(name string, e api.Errno) {
		if e != a.zero {
			t.Fatalf("%s of %v: %d, not %d", name, c, e, a.zero)
		}
	}
	var e api.Errno
	a.orders, a.zero = paper.Orders(c)
	for g := range c.Gatherings {
		a.before = append(a.before, make([]int, c.Gatherings))
		for h := range c.Gatherings {
			if g != h {
				a.before[g][h], e = paper.Before(c, g, h)
				expect("Before", e)
			}
		}
		sure, may, e := paper.Stocks(c, g)
		expect("Stocks", e)
		a.sure, a.may = append(a.sure, sure), append(a.may, may)
	}
	a.sheets, a.reams, e = paper.Left(c)
	expect("Left", e)
	a.years, e = paper.Year(c)
	expect("Year", e)
	a.wrong, a.down = paper.Wrong(c)
	a.gathering, a.left, e = paper.Ask(c)
	expect("Ask", e)
	return a
}

// modelled is what must be told of a case, from all of its truths.
func modelled(c api.PpCase) told {
	var a told
	all := truthsOf(c)
	truths := agreeing(all, c.Seen)
	a.wrong, a.down = wrongOf(c, all)
	a.zero = api.ErrZero
	none := func() [][]int { return make([][]int, c.Gatherings) }
	a.before, a.sure, a.may = none(), none(), none()
	for g := range c.Gatherings {
		a.before[g] = make([]int, c.Gatherings)
	}
	if len(truths) == 0 {
		return a
	}
	a.zero = api.OK
	a.orders = ordersOf(truths)
	for g := range c.Gatherings {
		for h := range c.Gatherings {
			a.before[g][h] = beforeOf(a.orders, g, h)
		}
		a.sure[g], a.may[g] = stocksOf(c, truths, g)
	}
	var left, reams, years []int
	for _, g := range truths {
		left, reams = append(left, g.left), append(reams, g.many)
	}
	met := map[[api.MaxPpStocks]bool]bool{}
	for _, g := range truths {
		if !met[g.printedOn] {
			met[g.printedOn] = true
			years = append(years, yearsOf(c, g.printedOn)...)
		}
	}
	a.sheets, a.reams, a.years = reaching(left), reaching(reams), reaching(years)
	a.left = math.MaxInt
	for g := range c.Gatherings {
		most := 0
		for _, s := range a.may[g] {
			most = max(most, len(ordersOf(agreeing(truths, []api.PpSeen{seen(g, s)}))))
		}
		if most < a.left {
			a.gathering, a.left = g, most
		}
	}
	return a
}

// wrongOf is the first of the shortest lists of things seen without which some truth agrees, by trying all lists.
func wrongOf(c api.PpCase, all []given) ([]int, api.Errno) {
	if len(all) == 0 {
		return nil, api.ErrDown
	}
	for _, some := range subsets(len(c.Seen)) {
		left := without(c, some).Seen
		if slices.ContainsFunc(all, func(g given) bool { return g.agrees(left) }) {
			return some, api.OK
		}
	}
	panic("some truth agrees if nothing is seen")
}

// beforeOf is which of two gatherings was printed first in all orders.
func beforeOf(orders [][]int, a, b int) int {
	first := 0
	for _, o := range orders {
		if slices.Index(o, a) < slices.Index(o, b) {
			first++
		}
	}
	switch {
	case a != b && first == len(orders):
		return api.PpBefore
	case a != b && first == 0:
		return api.PpAfter
	}
	return api.PpEither
}

// stocksOf are the stocks that a gathering has in all of some truths, and in some of them.
func stocksOf(c api.PpCase, truths []given, gathering int) (sure, may []int) {
	for s := range c.Stocks {
		having := agreeing(truths, []api.PpSeen{seen(gathering, s)})
		if len(having) == len(truths) {
			sure = append(sure, s)
		}
		if len(having) > 0 {
			may = append(may, s)
		}
	}
	return sure, may
}

// differ says in what two answers differ.
func differ(a, b told) string {
	lists := func(x, y [][]int) bool { return slices.EqualFunc(x, y, slices.Equal) }
	switch {
	case a.zero != b.zero || a.down != b.down:
		return "errors"
	case !lists(a.orders, b.orders):
		return "Orders"
	case !lists(a.before, b.before):
		return "Before"
	case !lists(a.sure, b.sure) || !lists(a.may, b.may):
		return "Stocks"
	case a.sheets != b.sheets || a.reams != b.reams:
		return "Left"
	case a.years != b.years:
		return "Year"
	case !slices.Equal(a.wrong, b.wrong):
		return "Wrong"
	case a.gathering != b.gathering || a.left != b.left:
		return "Ask"
	}
	return ""
}

// numbers are ints far beyond all limits, and about some.
func numbers(limits ...int) []int {
	list := []int{math.MinInt, math.MinInt + 1, -1, math.MaxInt - 1, math.MaxInt}
	for _, n := range limits {
		list = append(list, n-1, n, n+1)
	}
	return list
}
