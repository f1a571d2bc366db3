package state_test

import (
	"fmt"
	"math"
	"math/rand"
	"slices"
	"sync"
	"testing"

	"duodecimo/api"
	"duodecimo/state"
)

// Short names of readings.
const (
	un = api.StUnknown
	rA = api.StA
	rB = api.StB
)

func locus(name string, first int) api.StLocus { return api.StLocus{Name: name, First: first} }

func showing(name string, shows ...int) api.StCopy { return api.StCopy{Name: name, Shows: shows} }

func order(first []int, loci ...int) api.StOrder { return api.StOrder{First: first, Loci: loci} }

func span(lo, hi int) api.Span { return api.Span{Lo: lo, Hi: hi} }

// example is F of the chapter's examples, with further copies.
func example(further ...api.StCopy) api.StForme {
	return api.StForme{
		Loci: []api.StLocus{locus("x", rA), locus("y", un), locus("z", un)},
		Copies: append([]api.StCopy{
			showing("p", rA, rA, rA), showing("q", rB, rA, rA), showing("r", rB, rB, rA), showing("s", rB, rB, un),
		}, further...),
	}
}

// contradictory is G of the chapter's examples.
func contradictory() api.StForme { return example(showing("t", rA, rB, rA)) }

// formeOf is a forme whose loci have these first readings, and with copies that show this.
func formeOf(firsts []int, copies ...[]int) api.StForme {
	var f api.StForme
	for i, first := range firsts {
		f.Loci = append(f.Loci, locus(fmt.Sprint("l", i), first))
	}
	for i, shows := range copies {
		f.Copies = append(f.Copies, showing(fmt.Sprint("c", i), shows...))
	}
	return f
}

// cloned is a forme that shares no memory with the other one.
func cloned(f api.StForme) api.StForme {
	g := api.StForme{Loci: slices.Clone(f.Loci), Copies: slices.Clone(f.Copies)}
	for i := range g.Copies {
		g.Copies[i].Shows = slices.Clone(g.Copies[i].Shows)
	}
	return g
}

// same reports whether two formes are the same.
func same(f, g api.StForme) bool {
	return slices.Equal(f.Loci, g.Loci) && slices.EqualFunc(f.Copies, g.Copies, func(a, b api.StCopy) bool {
		return a.Name == b.Name && slices.Equal(a.Shows, b.Shows)
	})
}

// sameOrder reports whether two orders are the same.
func sameOrder(a, b api.StOrder) bool {
	return slices.Equal(a.First, b.First) && slices.Equal(a.Loci, b.Loci)
}

// other is the other one of two readings; what is unknown stays so.
func other(reading int) int { return (3 - reading) % 3 }

// counted are all lists of n digits below base, counted up.
func counted(base, n int) [][]int {
	list := [][]int{{}}
	for range n {
		var longer [][]int
		for _, l := range list {
			for digit := range base {
				longer = append(longer, append(slices.Clone(l), digit))
			}
		}
		list = longer
	}
	return list
}

// permutations are all lists in which each number below n is once, by counting up.
var permutations = sync.OnceValue(func() [][][]int {
	var list [][][]int
	for n := range api.MaxStLoci + 1 {
		list = append(list, slices.DeleteFunc(counted(n, n), func(l []int) bool {
			for i := range n {
				if !slices.Contains(l, i) {
					return true
				}
			}
			return false
		}))
	}
	return list
})

// ordersOf are all orders of a forme, in their order.
func ordersOf(f api.StForme) []api.StOrder {
	var list []api.StOrder
firsts:
	for _, first := range counted(2, len(f.Loci)) {
		for i, l := range f.Loci {
			first[i]++
			if l.First != un && l.First != first[i] {
				continue firsts
			}
		}
		for _, loci := range permutations()[len(f.Loci)] {
			list = append(list, order(first, loci...))
		}
	}
	return list
}

// stateAfter is the state after k corrections, reading by reading.
func stateAfter(o api.StOrder, k int) []int {
	readings := slices.Clone(o.First)
	for _, l := range o.Loci[:k] {
		readings[l] = other(readings[l])
	}
	return readings
}

// differing are the loci at which a copy shows another reading than a state has.
func differing(c api.StCopy, readings []int) []int {
	var list []int
	for l, reading := range c.Shows {
		if reading != un && reading != readings[l] {
			list = append(list, l)
		}
	}
	return list
}

// times are the numbers of corrections after which a copy can be printed.
func times(o api.StOrder, c api.StCopy) []int {
	var list []int
	for k := range len(o.Loci) + 1 {
		if len(differing(c, stateAfter(o, k))) == 0 {
			list = append(list, k)
		}
	}
	return list
}

// oddOf are the copies that do not agree with an order.
func oddOf(f api.StForme, o api.StOrder) []int {
	var list []int
	for i, c := range f.Copies {
		if len(times(o, c)) == 0 {
			list = append(list, i)
		}
	}
	return list
}

// agreeingOf are the orders that agree, in their order.
func agreeingOf(f api.StForme) []api.StOrder {
	var list []api.StOrder
	for _, o := range ordersOf(f) {
		if len(oddOf(f, o)) == 0 {
			list = append(list, o)
		}
	}
	return list
}

// subsets are all lists of numbers below n, ascending: the shortest come first, of those that are as long the first ones compared number by number.
func subsets(n int) [][]int {
	var list [][]int
	for bits := range 1 << n {
		var l []int
		for i := range n {
			if bits>>i&1 == 1 {
				l = append(l, i)
			}
		}
		list = append(list, l)
	}
	slices.SortFunc(list, func(a, b []int) int {
		if len(a) != len(b) {
			return len(a) - len(b)
		}
		return slices.Compare(a, b)
	})
	return list
}

// onlyWith is a forme with just some of its copies.
func onlyWith(f api.StForme, copies []int) api.StForme {
	g := api.StForme{Loci: f.Loci}
	for _, i := range copies {
		g.Copies = append(g.Copies, f.Copies[i])
	}
	return g
}

// without is a forme without some of its copies.
func without(f api.StForme, copies []int) api.StForme {
	g := api.StForme{Loci: f.Loci}
	for i, c := range f.Copies {
		if !slices.Contains(copies, i) {
			g.Copies = append(g.Copies, c)
		}
	}
	return g
}

// unread is a forme without some readings.
func unread(f api.StForme, readings []api.StReading) api.StForme {
	f = cloned(f)
	for _, r := range readings {
		f.Copies[r.Copy].Shows[r.Locus] = un
	}
	return f
}

// someOrder is an order of a forme.
func someOrder(r *rand.Rand, f api.StForme) api.StOrder {
	o := api.StOrder{Loci: r.Perm(len(f.Loci))}
	for _, l := range f.Loci {
		first := l.First
		if first == un {
			first = 1 + r.Intn(2)
		}
		o.First = append(o.First, first)
	}
	return o
}

// printed is a forme of so many loci and copies that was printed in some order, and this order, and after how many corrections each copy was printed. Of all readings about one in hidden is not known.
func printed(r *rand.Rand, loci, copies, hidden int) (f api.StForme, o api.StOrder, at []int) {
	for i := range loci {
		f.Loci = append(f.Loci, locus(fmt.Sprint("l", i), max(0, r.Intn(4)-1)))
	}
	o = someOrder(r, f)
	for i := range copies {
		k := r.Intn(loci + 1)
		at = append(at, k)
		shows := stateAfter(o, k)
		for l := range shows {
			if r.Intn(hidden) == 0 {
				shows[l] = un
			}
		}
		f.Copies = append(f.Copies, showing(fmt.Sprint("c", i), shows...))
	}
	return f, o, at
}

// mistaken is a forme with some readings that can be wrong.
func mistaken(r *rand.Rand, f api.StForme, many int) api.StForme {
	f = cloned(f)
	for range many {
		shows := f.Copies[r.Intn(len(f.Copies))].Shows
		shows[r.Intn(len(shows))] = 1 + r.Intn(2)
	}
	return f
}

// formes are formes without an error, always the same ones.
var formes = sync.OnceValue(func() []api.StForme {
	r := rand.New(rand.NewSource(3))
	var list []api.StForme
	for i := range 200 {
		f, _, _ := printed(r, 1+r.Intn(api.MaxStLoci), 1+r.Intn(api.MaxStCopies), 2+r.Intn(6))
		if i%20 == 0 {
			f, _, _ = printed(r, api.MaxStLoci, api.MaxStCopies, 5)
		}
		if i%4 == 3 {
			for l := range f.Loci {
				f.Loci[l].First = un
			}
		}
		list = append(list, mistaken(r, f, []int{0, 1, 3, 20}[r.Intn(4)]))
	}
	list = append(list, formeOf([]int{un}, []int{un}), formeOf([]int{rA}, []int{rB}), formeOf([]int{un, un}, []int{rA, rA}, []int{rA, rB}, []int{rB, rA}, []int{rB, rB}))
	var most [][]int
	for range api.MaxStCopies {
		most = append(most, make([]int, api.MaxStLoci))
	}
	return append(list, formeOf(make([]int, api.MaxStLoci), most...))
})

// told is what all functions but Odd and Check say of a forme.
type told struct {
	first    api.StOrder
	many     int
	reading  []int
	before   [][]int // of the same locus twice: 0
	after    []api.Span
	earlier  [][]int
	last     []int
	down     api.Errno // of all functions above
	proof    []int
	none     api.Errno // of Proof
	wrong    []int
	mistaken []api.StReading
}

// tell asks all functions but Odd and Check of a forme without an error.
func tell(t *testing.T, f api.StForme) told {
	t.Helper()
	var a told
	a.first, a.many, a.down = state.First(f)
	expect := func(e api.Errno) {
		if e != a.down {
			t.Fatalf("%v: %d with First, and %d", f, a.down, e)
		}
	}
	for i := range f.Loci {
		n, e := state.Reading(f, i)
		expect(e)
		a.reading = append(a.reading, n)
		a.before = append(a.before, make([]int, len(f.Loci)))
		for j := range f.Loci {
			if i != j {
				a.before[i][j], e = state.Before(f, i, j)
				expect(e)
			}
		}
	}
	for i := range f.Copies {
		s, e := state.After(f, i)
		expect(e)
		a.after = append(a.after, s)
		a.earlier = append(a.earlier, nil)
		for j := range f.Copies {
			n, e := state.Earlier(f, i, j)
			expect(e)
			a.earlier[i] = append(a.earlier[i], n)
		}
	}
	last, e := state.Last(f)
	expect(e)
	a.last = last
	a.proof, a.none = state.Proof(f)
	var e1, e2 api.Errno
	a.wrong, e1 = state.Wrong(f)
	a.mistaken, e2 = state.Mistaken(f)
	if e1 != api.OK || e2 != api.OK || (a.down == api.OK) == (a.none == api.OK) {
		t.Fatalf("%v: First: %d, Proof: %d, Wrong: %d, Mistaken: %d", f, a.down, a.none, e1, e2)
	}
	return a
}

// answers are what is told of each of the formes, asked once for all tests.
func answers(t *testing.T) []told {
	t.Helper()
	all.Do(func() {
		for _, f := range formes() {
			allAnswers = append(allAnswers, tell(t, f))
		}
	})
	return allAnswers
}

var (
	all        sync.Once
	allAnswers []told
)

// oddIn are the copies that do not agree with an order, by Odd.
func oddIn(t *testing.T, f api.StForme, o api.StOrder) []int {
	t.Helper()
	list, e := state.Odd(f, o)
	if e != api.OK {
		t.Fatalf("Odd(%v, %v): %d", f, o, e)
	}
	return list
}

// agrees reports whether some order agrees, by First.
func agrees(t *testing.T, f api.StForme) bool {
	t.Helper()
	_, many, e := state.First(f)
	if e != api.OK && e != api.ErrDown || (e == api.OK) != (many > 0) {
		t.Fatalf("First(%v): %d, %d", f, many, e)
	}
	return e == api.OK
}

// numbers are ints far beyond all limits, and about some.
func numbers(limits ...int) []int {
	list := []int{math.MinInt, math.MinInt + 1, -1, math.MaxInt - 1, math.MaxInt}
	for _, n := range limits {
		list = append(list, n-1, n, n+1)
	}
	return list
}
