package state_test

import (
	"fmt"
	"math"
	"slices"
	"strings"
	"testing"

	"duodecimo/api"
	"duodecimo/state"
)

// with is the example after a change.
func with(change func(*api.StForme)) api.StForme {
	f := example()
	change(&f)
	return f
}

// loci is the example with other loci.
func loci(list ...api.StLocus) api.StForme {
	return with(func(f *api.StForme) { f.Loci = list })
}

// copies is the example with other copies.
func copies(list ...api.StCopy) api.StForme {
	return with(func(f *api.StForme) { f.Copies = list })
}

// formeCase is a forme, and what Check returns.
type formeCase struct {
	f        api.StForme
	part, at int
	e        api.Errno
}

// formeCases are formes with and without errors.
func formeCases() []formeCase {
	long := strings.Repeat("a", api.MaxName)
	p := showing("p", rA, rB, un)
	list := []formeCase{
		{example(), 0, 0, api.OK},
		{contradictory(), 0, 0, api.OK},
		{formeOf([]int{un}, []int{un}), 0, 0, api.OK},
		{formeOf(make([]int, 5), make([]int, 5), make([]int, 5), make([]int, 5), make([]int, 5), make([]int, 5), make([]int, 5), make([]int, 5), make([]int, 5)), 0, 0, api.OK},
		{api.StForme{}, 1, 0, api.ErrLong},
		{loci(), 1, 0, api.ErrLong},
		{loci(make([]api.StLocus, 6)...), 1, 0, api.ErrLong},
		{with(func(f *api.StForme) { f.Loci, f.Copies = make([]api.StLocus, 6), nil }), 1, 0, api.ErrLong},
		{loci(locus("x", un), locus("", 9)), 1, 1, api.ErrForm},
		{loci(locus("", 9), locus("", 9)), 1, 0, api.ErrForm},
		{loci(locus("x", un), locus("X", 9)), 1, 1, api.ErrForm},
		{loci(locus(long, un), locus(long+"a", un)), 1, 1, api.ErrForm},
		{loci(locus("x", un), locus("y", un), locus("x", 9)), 1, 2, api.ErrTwice},
		{loci(locus("x", un), locus("x", un), locus("", un)), 1, 1, api.ErrTwice},
		{loci(locus("x", 9), locus("x", un)), 1, 0, api.ErrRange},
		{with(func(f *api.StForme) { f.Loci[2].First, f.Copies = 3, nil }), 1, 2, api.ErrRange},
		{copies(), 2, 0, api.ErrLong},
		{copies(make([]api.StCopy, 9)...), 2, 0, api.ErrLong},
		{copies(p, showing("", 9)), 2, 1, api.ErrForm},
		{copies(showing("a b", un, un, un), p, p), 2, 0, api.ErrForm},
		{copies(p, showing(long, un, un, un), showing(long+"a")), 2, 2, api.ErrForm},
		{copies(p, showing("q", un, un, un), showing("p", 9)), 2, 2, api.ErrTwice},
		{copies(p, showing("p")), 2, 1, api.ErrTwice},
		{copies(showing("x", un, un, un), showing("y", un, un, un), showing("z", un, un, un)), 0, 0, api.OK},
		{copies(p, showing("q")), 2, 1, api.ErrLong},
		{copies(showing("q", 9, 9)), 2, 0, api.ErrLong},
		{copies(showing("q", 9, 9, 9, 9)), 2, 0, api.ErrLong},
		{copies(showing("q", make([]int, 1<<20)...)), 2, 0, api.ErrLong},
		{copies(p, showing("q", un, un, 3), showing("p")), 2, 1, api.ErrRange},
		{copies(showing("q", un, -1, un), showing("")), 2, 0, api.ErrRange},
		{copies(showing("q", 3, un, un), p), 2, 0, api.ErrRange},
	}
	for _, n := range numbers(un, rA, rB) {
		known := formeCase{loci(locus("x", un), locus("y", n), locus("z", un)), 1, 1, api.ErrRange}
		shown := formeCase{copies(p, showing("q", rA, rB, n)), 2, 1, api.ErrRange}
		if n == un || n == rA || n == rB {
			known.part, known.at, known.e = 0, 0, api.OK
			shown.part, shown.at, shown.e = 0, 0, api.OK
		}
		list = append(list, known, shown)
	}
	return list
}

// errorsOf are the errors of all functions but Check, each called with errors of its own as well; none may return anything else with an error.
func errorsOf(f api.StForme) map[string]api.Errno {
	odd, e1 := state.Odd(f, api.StOrder{First: []int{9}})
	o, many, e2 := state.First(f)
	reading, e3 := state.Reading(f, -1)
	before, e4 := state.Before(f, -1, -1)
	after, e5 := state.After(f, -1)
	earlier, e6 := state.Earlier(f, 99, -1)
	last, e7 := state.Last(f)
	proof, e8 := state.Proof(f)
	wrong, e9 := state.Wrong(f)
	mistaken, e10 := state.Mistaken(f)
	list := map[string]api.Errno{"Odd": e1, "First": e2, "Reading": e3, "Before": e4, "After": e5, "Earlier": e6, "Last": e7, "Proof": e8, "Wrong": e9, "Mistaken": e10}
	sum := len(odd) + len(o.First) + len(o.Loci) + many + reading + before + earlier + len(last) + len(proof) + len(wrong) + len(mistaken)
	if sum != 0 || after != span(0, 0) {
		list["a result with an error"] = -1
	}
	return list
}

// P3.1: the errors of a forme in their order, and those before it of all other functions.
func TestCheck(t *testing.T) {
	for i, c := range formeCases() {
		part, at, e := state.Check(c.f)
		if part != c.part || at != c.at || e != c.e {
			t.Errorf("%d: Check = %d, %d, %d", i, part, at, e)
		}
		if c.e == api.OK {
			continue
		}
		for name, e := range errorsOf(c.f) {
			if e != c.e {
				t.Errorf("%d: %s: %d", i, name, e)
			}
		}
	}
}

// P3.1: all formes that the other tests are about have no error.
func TestCheckFormes(t *testing.T) {
	for _, f := range formes() {
		if part, at, e := state.Check(f); part != 0 || at != 0 || e != api.OK {
			t.Errorf("Check(%v) = %d, %d, %d", f, part, at, e)
		}
	}
}

// P3.2: the errors of an order in their order, also if no order agrees.
func TestOrderErrors(t *testing.T) {
	all := []int{rA, rA, rA}
	for i, c := range []struct {
		o api.StOrder
		e api.Errno
	}{
		{order(all, 0, 1, 2), api.OK},
		{order([]int{rA, rB, rB}, 2, 0, 1), api.OK},
		{api.StOrder{}, api.ErrLong},
		{order(nil, 0, 1, 2), api.ErrLong},
		{order(all), api.ErrLong},
		{order([]int{9, rA}, 0, 1, 2), api.ErrLong},
		{order([]int{9, rA, rA, rA}, 0, 1, 2), api.ErrLong},
		{order([]int{rB, 9, rA}, 9, 9), api.ErrLong},
		{order(all, 0, 1, 2, 0), api.ErrLong},
		{order(make([]int, 1<<20), 0, 1, 2), api.ErrLong},
		{order([]int{rB, un, rA}, 0, 0, 1), api.ErrRange},
		{order([]int{un, rA, rA}, 0, 1, 2), api.ErrRange},
		{order([]int{rA, rA, 3}, 0, 1, 2), api.ErrRange},
		{order([]int{rA, -1, rA}, 0, 1, 2), api.ErrRange},
		{order([]int{rB, rA, rA}, 0, 0, 3), api.ErrRange},
		{order([]int{rB, rA, rA}, 0, 0, -1), api.ErrRange},
		{order([]int{rA, rA, math.MinInt}, 0, 1, 2), api.ErrRange},
		{order(all, math.MaxInt, 1, 2), api.ErrRange},
		{order(all, 1, 2, 3), api.ErrRange},
		{order([]int{rB, rA, rA}, 0, 1, 0), api.ErrTwice},
		{order([]int{rB, rB, rB}, 2, 2, 2), api.ErrTwice},
		{order(all, 1, 1, 2), api.ErrTwice},
		{order([]int{rB, rA, rA}, 0, 1, 2), api.ErrArg},
		{order([]int{rB, rB, rB}, 2, 1, 0), api.ErrArg},
	} {
		for _, f := range []api.StForme{example(), contradictory()} {
			list, e := state.Odd(f, c.o)
			if e != c.e || e != api.OK && len(list) != 0 {
				t.Errorf("%d: Odd = %v, %d", i, list, e)
			}
		}
	}
	late := formeOf([]int{un, un, rB}, []int{un, un, un})
	for n, want := range map[int]api.Errno{rA: api.ErrArg, rB: api.OK} {
		if list, e := state.Odd(late, order([]int{rA, rB, n}, 0, 1, 2)); len(list) != 0 || e != want {
			t.Errorf("Odd with First %d = %v, %d", n, list, e)
		}
	}
}

// wantIndex is the error of a function with an index below many, of a forme of which some order agrees or none.
func wantIndex(agrees bool, many int, indices ...int) api.Errno {
	for _, n := range indices {
		if n < 0 || n >= many {
			return api.ErrNone
		}
	}
	if !agrees {
		return api.ErrDown
	}
	return api.OK
}

// P3.3 to P3.6: what is no index comes before that no order agrees.
func TestIndexErrors(t *testing.T) {
	for _, f := range []api.StForme{example(), contradictory()} {
		ok := len(f.Copies) == 4
		for _, i := range numbers(0, 3, 5) {
			n, e := state.Reading(f, i)
			if want := wantIndex(ok, 3, i); e != want || e != api.OK && n != 0 {
				t.Errorf("Reading of %d = %d, %d", i, n, e)
			}
			s, e := state.After(f, i)
			if want := wantIndex(ok, len(f.Copies), i); e != want || e != api.OK && s != span(0, 0) {
				t.Errorf("After of %d = %v, %d", i, s, e)
			}
			for _, j := range numbers(0, 3, 5) {
				want := wantIndex(ok, 3, i, j)
				if want != api.ErrNone && i == j {
					want = api.ErrArg
				}
				if n, e := state.Before(f, i, j); e != want || e != api.OK && n != 0 {
					t.Errorf("Before of %d and %d = %d, %d", i, j, n, e)
				}
				want = wantIndex(ok, len(f.Copies), i, j)
				if n, e := state.Earlier(f, i, j); e != want || e != api.OK && n != 0 {
					t.Errorf("Earlier of %d and %d = %d, %d", i, j, n, e)
				}
			}
		}
	}
}

// P3.3, P3.5, P3.6: First and Last return ErrDown if no order agrees, Proof returns ErrNone if one does; Odd, Wrong and Mistaken tell in any case.
func TestDown(t *testing.T) {
	if o, many, e := state.First(contradictory()); len(o.First)+len(o.Loci)+many != 0 || e != api.ErrDown {
		t.Errorf("First = %v, %d, %d", o, many, e)
	}
	if last, e := state.Last(contradictory()); len(last) != 0 || e != api.ErrDown {
		t.Errorf("Last = %v, %d", last, e)
	}
	if proof, e := state.Proof(example()); len(proof) != 0 || e != api.ErrNone {
		t.Errorf("Proof = %v, %d", proof, e)
	}
	if wrong, e := state.Wrong(example()); len(wrong) != 0 || e != api.OK {
		t.Errorf("Wrong = %v, %d", wrong, e)
	}
	if mistaken, e := state.Mistaken(example()); len(mistaken) != 0 || e != api.OK {
		t.Errorf("Mistaken = %v, %d", mistaken, e)
	}
}

// P3.15: all functions return for any numbers.
func TestAnyArguments(t *testing.T) {
	ints := numbers(0, 1, 2)
	for _, n := range ints {
		for _, m := range ints {
			f := formeOf([]int{un, n}, []int{m, rA}, []int{rB, n}, []int{un})
			for size := range 4 {
				f.Copies = f.Copies[:3-size]
				state.Check(f)
				errorsOf(f)
				state.Odd(f, order([]int{n, m}, m, n))
				state.Reading(f, n)
				state.Before(f, n, m)
				state.After(f, n)
				state.Earlier(f, n, m)
			}
		}
	}
	huge := api.StForme{Loci: make([]api.StLocus, 1<<16), Copies: make([]api.StCopy, 1<<16)}
	if part, at, e := state.Check(huge); part != 1 || at != 0 || e != api.ErrLong {
		t.Errorf("Check = %d, %d, %d", part, at, e)
	}
}

// P3.15: no argument is changed.
func TestNotChanged(t *testing.T) {
	for _, f := range append(formes()[:40:40], contradictory()) {
		g := cloned(f)
		o := api.StOrder{First: make([]int, len(f.Loci))}
		for i, l := range f.Loci {
			o.First[i] = max(l.First, rA)
			o.Loci = append([]int{i}, o.Loci...)
		}
		p := order(slices.Clone(o.First), slices.Clone(o.Loci)...)
		oddIn(t, f, o)
		tell(t, f)
		if !same(f, g) || !sameOrder(o, p) {
			t.Errorf("%v, %v became %v, %v", g, p, f, o)
		}
	}
}

// P3.15: results are new memory: what is written there is seen neither in the arguments, nor in other results, nor in the same result elsewhere.
func TestNewMemory(t *testing.T) {
	for _, f := range []api.StForme{example(), contradictory()} {
		g := cloned(f)
		want := fmt.Sprint(tell(t, f))
		first := []int{rA, rA, rB}
		odd := oddIn(t, f, order(first, 2, 1, 0))
		wantOdd := slices.Clone(odd)
		a := tell(t, f)
		for _, list := range [][]int{a.first.First, a.last, a.proof, a.wrong, odd} {
			scribble(list)
		}
		if before := fmt.Sprint(a.first.Loci); before != "[]" && before != "[0 1 2]" {
			t.Errorf("First and Loci share memory: %v", before)
		}
		scribble(a.first.Loci)
		for i := range a.mistaken {
			a.mistaken[i] = api.StReading{Copy: -7, Locus: -7}
		}
		if !same(f, g) || fmt.Sprint(tell(t, f)) != want {
			t.Errorf("%v became %v", g, f)
		}
		if list := oddIn(t, f, order(first, 2, 1, 0)); !slices.Equal(list, wantOdd) || !slices.Equal(first, []int{rA, rA, rB}) {
			t.Errorf("Odd = %v", list)
		}
	}
}

// scribble overwrites a list, also beyond its end.
func scribble(list []int) {
	list = list[:cap(list)]
	for i := range list {
		list[i] = -7
	}
}
