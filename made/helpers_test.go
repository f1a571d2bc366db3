package made_test

import (
	"fmt"
	"math"
	"math/rand"
	"slices"
	"sync"
	"testing"

	"duodecimo/api"
	"duodecimo/made"
)

// none is where a leaf comes from that a copy does not have.
const none = api.MaNone

func leaf(name string, mate, share int) api.MaLeaf {
	return api.MaLeaf{Name: name, Mate: mate, Share: share}
}

func copied(name string, has ...int) api.MaCopy { return api.MaCopy{Name: name, Has: has} }

func span(lo, hi int) api.Span { return api.Span{Lo: lo, Hi: hi} }

func seen(kind, lo, hi int) api.MaSeen { return api.MaSeen{Kind: kind, Tall: span(lo, hi)} }

// list is a list of numbers, as short as it can be written.
func list(numbers ...int) []int { return numbers }

// rows is a list of lists.
func rows(lists ...[]int) [][]int { return lists }

// example is S of the chapter's examples.
func example() api.MaSet {
	return api.MaSet{
		Price:  1000,
		Leaves: []api.MaLeaf{leaf("a", 1, 300), leaf("b", 0, 100), leaf("c", 3, 100), leaf("d", 2, 100), leaf("e", none, 55)},
		Copies: []api.MaCopy{copied("p", 1, 1, 0, 0, 1), copied("q", 1, 1, 1, 1, 0), copied("r", 2, 2, 2, 2, 1)},
	}
}

// but is the example after a change.
func but(change func(*api.MaSet)) api.MaSet {
	s := example()
	change(&s)
	return s
}

// inHand is H of the chapter's examples.
func inHand() api.MaHand {
	return handOf(seen(1, 201, 203), seen(0, 202, 204), seen(2, 200, 202), seen(1, 198, 201), seen(1, 203, 205))
}

// handOf is a copy in the hand of some leaves.
func handOf(leaves ...api.MaSeen) api.MaHand { return api.MaHand{Leaves: leaves} }

// setOf is a set of copies that have these leaves, with these mates; the shares are 10, 20 and so on, of a Price of 1000.
func setOf(mates []int, has ...[]int) api.MaSet {
	s := api.MaSet{Price: 1000}
	for i, mate := range mates {
		s.Leaves = append(s.Leaves, leaf("l"+string(rune('a'+i)), mate, 10*(i+1)))
	}
	for i, h := range has {
		s.Copies = append(s.Copies, copied("c"+string(rune('a'+i)), h...))
	}
	return s
}

// alone are mates of so many leaves that have none.
func alone(many int) []int { return slices.Repeat(list(none), many) }

// full is a set with as many leaves and copies as there can be; each leaf is the mate of the one beside it.
func full() api.MaSet {
	return setOf(list(1, 0, 3, 2, 5, 4), list(1, 1, 1, 1, 1, 1), list(2, 2, 2, 2, 2, 2), list(1, 2, 1, 2, 1, 2), list(0, 0, 0, 0, 0, 0))
}

// fullHand is a copy in the hand with as many leaves as it can have.
func fullHand() api.MaHand {
	var h api.MaHand
	for i := range api.MaxMaSeen {
		h.Leaves = append(h.Leaves, seen(i%3, 1+i, api.MaxMaTall-i))
	}
	return h
}

// cloned is a set that shares no memory with the other one.
func cloned(s api.MaSet) api.MaSet {
	s.Leaves, s.Copies = slices.Clone(s.Leaves), slices.Clone(s.Copies)
	for i, c := range s.Copies {
		s.Copies[i].Has = slices.Clone(c.Has)
	}
	return s
}

// clonedHand is a copy in the hand that shares no memory with the other one.
func clonedHand(h api.MaHand) api.MaHand { return handOf(slices.Clone(h.Leaves)...) }

// upTo are the numbers below many, ascending.
func upTo(many int) []int {
	var numbers []int
	for n := range many {
		numbers = append(numbers, n)
	}
	return numbers
}

// parts are all parts of a list, compared number by number, so that none comes first.
func parts(of []int) [][]int {
	all := [][]int{nil}
	for i, n := range of {
		for _, behind := range parts(of[i+1:]) {
			all = append(all, append(list(n), behind...))
		}
	}
	return all
}

// allParts are, by how many leaves there are, all lists of some of them, compared number by number.
var allParts = sync.OnceValue(func() [][][]int {
	var all [][][]int
	for many := range api.MaxMaSeen + 1 {
		all = append(all, parts(upTo(many)))
	}
	return all
})

// without is a list without the numbers of another one.
func without(numbers, others []int) []int {
	return slices.DeleteFunc(slices.Clone(numbers), func(n int) bool { return slices.Contains(others, n) })
}

// missed is what Missing says.
type missed struct {
	missing []int
	kind    int
	e       api.Errno
}

// given is what Donors says.
type given struct {
	copies []int
	e      api.Errno
}

// rarest is what Most says.
type rarest struct {
	many, leaf int
	e          api.Errno
}

// planned is what Whole says.
type planned struct {
	plan              [][]int
	whole, moved, cut int
	e                 api.Errno
}

// valued is what Worth says.
type valued struct {
	worth int
	e     api.Errno
}

// told is what all functions with a set but Check say.
type told struct {
	missing []missed  // of all copies
	donors  [][]given // by copies, of all leaves
	most    []rarest  // of all kinds
	whole   planned
	worth   []valued // of all copies
}

// sure is what Sure says.
type sure struct {
	must, may []int
	e         api.Errno
}

// sourced is what Sources says.
type sourced struct {
	sources []int
	many    int
	e       api.Errno
}

// proved is what Proof says.
type proved struct {
	a, b int
	e    api.Errno
}

// measured is what Tall says.
type measured struct {
	span api.Span
	e    api.Errno
}

// toldHand is what all functions with a copy in the hand but CheckHand say.
type toldHand struct {
	foreign given
	sure    sure
	sources sourced
	proof   []proved   // of all lists of leaves
	tall    []measured // of all lists of leaves
}

func missing(s api.MaSet, copy int) missed {
	missing, kind, e := made.Missing(s, copy)
	return missed{missing, kind, e}
}

func donors(s api.MaSet, copy, leaf int) given {
	copies, e := made.Donors(s, copy, leaf)
	return given{copies, e}
}

func most(s api.MaSet, kind int) rarest {
	many, leaf, e := made.Most(s, kind)
	return rarest{many, leaf, e}
}

func whole(s api.MaSet) planned {
	plan, whole, moved, cut, e := made.Whole(s)
	return planned{plan, whole, moved, cut, e}
}

func worth(s api.MaSet, copy int) valued {
	worth, e := made.Worth(s, copy)
	return valued{worth, e}
}

func foreign(h api.MaHand) given {
	leaves, e := made.Foreign(h)
	return given{leaves, e}
}

func surely(h api.MaHand) sure {
	must, may, e := made.Sure(h)
	return sure{must, may, e}
}

func sources(h api.MaHand) sourced {
	sources, many, e := made.Sources(h)
	return sourced{sources, many, e}
}

func proof(h api.MaHand, told []int) proved {
	a, b, e := made.Proof(h, told)
	return proved{a, b, e}
}

func tall(h api.MaHand, told []int) measured {
	span, e := made.Tall(h, told)
	return measured{span, e}
}

// tell asks all functions with a set but Check.
func tell(s api.MaSet) told {
	var x told
	for i := range s.Copies {
		x.missing = append(x.missing, missing(s, i))
		x.donors = append(x.donors, nil)
		for k := range s.Leaves {
			x.donors[i] = append(x.donors[i], donors(s, i, k))
		}
		x.worth = append(x.worth, worth(s, i))
	}
	for kind := range api.MaxMaKinds {
		x.most = append(x.most, most(s, kind+1))
	}
	x.whole = whole(s)
	return x
}

// tellHand asks all functions with a copy in the hand but CheckHand.
func tellHand(h api.MaHand) toldHand {
	x := toldHand{foreign: foreign(h), sure: surely(h), sources: sources(h)}
	for _, some := range allParts()[len(h.Leaves)] {
		x.proof = append(x.proof, proof(h, some))
		x.tall = append(x.tall, tall(h, some))
	}
	return x
}

// differ says in what two answers differ.
func differ(x, y told) string {
	return differing([]compared{
		{"Missing", x.missing, y.missing}, {"Donors", x.donors, y.donors}, {"Most", x.most, y.most}, {"Whole", x.whole, y.whole}, {"Worth", x.worth, y.worth},
	})
}

// differHand says in what two answers of a copy in the hand differ.
func differHand(x, y toldHand) string {
	return differing([]compared{
		{"Foreign", x.foreign, y.foreign}, {"Sure", x.sure, y.sure}, {"Sources", x.sources, y.sources}, {"Proof", x.proof, y.proof}, {"Tall", x.tall, y.tall},
	})
}

// compared is what two answers say of the same.
type compared struct {
	what string
	x, y any
}

// differing is the first thing in which answers differ.
func differing(all []compared) string {
	for _, c := range all {
		if !alike(c.x, c.y) {
			return c.what
		}
	}
	return ""
}

// alike reports whether two things are printed the same, as a nil list and an empty one are.
func alike(x, y any) bool { return fmt.Sprint(x) == fmt.Sprint(y) }

// expect checks what was told.
func expect(t *testing.T, what string, got, want any) {
	t.Helper()
	if !alike(got, want) {
		t.Errorf("%s = %v, not %v", what, got, want)
	}
}

// inAll makes what is said of each of so many things, some at a time.
func inAll[T any](many int, say func(int) T) []T {
	things := make([]T, many)
	var wait sync.WaitGroup
	places := make(chan bool, 16)
	for i := range many {
		places <- true
		wait.Go(func() {
			things[i] = say(i)
			<-places
		})
	}
	wait.Wait()
	return things
}

// numbers are ints far beyond all limits, and about some.
func numbers(limits ...int) []int {
	far := list(math.MinInt, math.MinInt+1, -2, -1, math.MaxInt-1, math.MaxInt)
	for _, n := range limits {
		far = append(far, n-1, n, n+1)
	}
	return far
}

// seed is from where random numbers of a test start.
func seed(n int64) *rand.Rand { return rand.New(rand.NewSource(n)) }

// oneOf is one of some things.
func oneOf[T any](r *rand.Rand, things ...T) T { return things[r.Intn(len(things))] }
