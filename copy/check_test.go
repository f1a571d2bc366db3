package copy_test

import (
	"math"
	"slices"
	"strings"
	"testing"

	"duodecimo/api"
	"duodecimo/copy"
)

// checkCase is a case, and what Check returns.
type checkCase struct {
	c        api.CpCase
	part, at int
	e        api.Errno
}

// badBook is a case whose book was changed.
func badBook(change func(*api.QuBook), list ...api.CpItem) api.CpCase {
	c := caseOf(small, list...)
	change(&c.Book)
	return c
}

// tooLong is a book of one leaf more than there can be.
var tooLong = strings.Replace(most, "-K12", "-K12 L1", 1)

// checkCases are cases with and without errors.
func checkCases() []checkCase {
	doubt := item(0, 1)
	five := item(0, 1, 2, 3, 4)
	long := make([]api.CpItem, api.MaxCpItems+1)
	return []checkCase{
		{example(), 0, 0, api.OK},
		{caseOf(small), 0, 0, api.OK},
		{caseOf(nothing), 0, 0, api.OK},
		{caseOf(nothing, item(), item()), 0, 0, api.OK},
		{caseOf(small, item(0, 3, 6, 7)), 0, 0, api.OK},
		{caseOf(small, doubt, doubt, item(), item(7), doubt), 0, 0, api.OK},
		{wholeOf(most), 0, 0, api.OK},
		{caseOf(small, long[1:]...), 0, 0, api.OK},
		// The book comes first, whatever the items are; the index is 0, also of a gathering behind others.
		{badBook(func(b *api.QuBook) { b.Signed = 13 }, five), 1, 0, api.ErrRange},
		{badBook(func(b *api.QuBook) { b.Gatherings = nil }, item(-1)), 1, 0, api.ErrLong},
		{badBook(func(b *api.QuBook) { b.Gatherings = make([]api.QuGathering, 31) }), 1, 0, api.ErrLong},
		{badBook(func(b *api.QuBook) { b.Gatherings[1].Sig = b.Gatherings[0].Sig }, long...), 1, 0, api.ErrTwice},
		{badBook(func(b *api.QuBook) { b.Gatherings[1].Leaves = 5 }, five), 1, 0, api.ErrRange},
		{badBook(func(b *api.QuBook) { b.Gatherings[1].Changes = []api.QuChange{{Kind: 4}} }), 1, 0, api.ErrForm},
		{badBook(func(b *api.QuBook) { b.Gatherings[0].Sig.Letter = 5 }), 1, 0, api.ErrArg},
		{caseOf(tooLong), 1, 0, api.ErrLong},
		{caseOf(tooLong, item(200), five), 1, 0, api.ErrLong},
		{caseOf(tooLong, long...), 1, 0, api.ErrLong},
		{caseOf("A12(0+1) B-K12 $0", item(0)), 1, 0, api.ErrLong},
		{caseOf("A12(0+1,-1) B-K12 $0", item(119)), 0, 0, api.OK},
		// How many items there are comes before each of them.
		{caseOf(small, long...), 2, 0, api.ErrLong},
		{caseOf(small, slices.Concat([]api.CpItem{item(9)}, long)...), 2, 0, api.ErrLong},
		{caseOf(small, make([]api.CpItem, 1<<20)...), 2, 0, api.ErrLong},
		// The first item with an error decides, and of its errors how many leaves it can be.
		{caseOf(small, item(0), five), 2, 1, api.ErrLong},
		{caseOf(small, item(9, -1, 9, 9, 8)), 2, 0, api.ErrLong},
		{caseOf(small, item(make([]int, 1<<20)...)), 2, 0, api.ErrLong},
		{caseOf(small, item(0), item(), item(8), five), 2, 2, api.ErrNone},
		{caseOf(small, item(0, 1, 2, 8)), 2, 0, api.ErrNone},
		{caseOf(small, item(3, 2, 8)), 2, 0, api.ErrNone},
		{caseOf(small, item(-1, 2)), 2, 0, api.ErrNone},
		{caseOf(nothing, item(), item(0)), 2, 1, api.ErrNone},
		{caseOf(small, item(3, 2), item(8), five), 2, 0, api.ErrArg},
		{caseOf(small, item(), item(3, 3)), 2, 1, api.ErrArg},
		{caseOf(small, item(0, 1, 3, 2)), 2, 0, api.ErrArg},
		{caseOf(small, item(1, 0, 2)), 2, 0, api.ErrArg},
		// All items come before how many of them are doubtful.
		{caseOf(small, doubt, doubt, doubt, doubt, item(3, 2)), 2, 4, api.ErrArg},
		{caseOf(small, doubt, doubt, doubt, doubt), 3, 3, api.ErrLong},
		{caseOf(small, doubt, item(), item(0), doubt, doubt, item(), item(1, 2, 3, 4), doubt), 3, 6, api.ErrLong},
		{caseOf(small, doubt, doubt, doubt, item(), item(0), doubt), 3, 5, api.ErrLong},
	}
}

// errorsOf are the errors of all functions with a case but Check; none may return anything else with an error.
func errorsOf(c api.CpCase) map[string]api.Errno {
	f, e1 := copy.Faults(c)
	s, e2 := copy.Range(c)
	sure, may, e3 := copy.Lost(c)
	tight, slack, e4 := copy.Loose(c)
	bound, e5 := copy.Bound(c)
	asked, e6 := copy.Ask(c)
	list := map[string]api.Errno{"Faults": e1, "Range": e2, "Lost": e3, "Loose": e4, "Bound": e5, "Ask": e6}
	if !sameFaults(f, api.CpFaults{}) || s != (api.Span{}) || len(sure)+len(may)+len(tight)+len(slack)+len(bound)+asked != 0 {
		list["a result with an error"] = -1
	}
	return list
}

// P4.1: the errors of a case in their order, and those before it of all other functions.
func TestCheck(t *testing.T) {
	for i, c := range checkCases() {
		part, at, e := copy.Check(c.c)
		if part != c.part || at != c.at || e != c.e {
			t.Errorf("%d: Check = %d, %d, %d", i, part, at, e)
		}
		if c.e == api.OK {
			continue
		}
		for name, e := range errorsOf(c.c) {
			if e != c.e {
				t.Errorf("%d: %s: %d", i, name, e)
			}
		}
	}
}

// P4.1, P1: numbers that are no leaf, also far beyond all limits, alone and behind one that is.
func TestCheckNumbers(t *testing.T) {
	for _, formula := range formulas() {
		leaves := len(leavesOf(bookOf(formula)))
		for _, n := range numbers(0, leaves) {
			want := checkCase{part: 2, at: 1, e: api.ErrNone}
			if n >= 0 && n < leaves {
				want = checkCase{}
			}
			c := caseOf(formula, item(), item(n))
			if part, at, e := copy.Check(c); part != want.part || at != want.at || e != want.e {
				t.Errorf("Check(%v) = %d, %d, %d", c, part, at, e)
			}
			c = caseOf(most, item(5, n))
			if _, _, e := copy.Check(c); n < 0 && e != api.ErrNone || n > 119 && e != api.ErrNone || n >= 0 && n <= 5 && e != api.ErrArg {
				t.Errorf("Check(%v): %d", c, e)
			}
		}
	}
}

// P4.1: all cases that the other tests are about have no error, and of each kind there are some.
func TestCheckCases(t *testing.T) {
	doubts := map[int]int{}
	for _, c := range cases() {
		if part, at, e := copy.Check(c.CpCase); part != 0 || at != 0 || e != api.OK {
			t.Errorf("Check(%v) = %d, %d, %d", c.CpCase, part, at, e)
		}
		doubts[len(doubtsOf(c.CpCase))]++
		for i, x := range c.Items {
			if !slices.Contains(x.Could, c.told[i]) && (c.told[i] != no || len(x.Could) > 0) {
				t.Errorf("%v: item %d is %d", c.CpCase, i, c.told[i])
			}
		}
	}
	for n := range api.MaxCpDoubts + 1 {
		if doubts[n] < 30 {
			t.Errorf("just %d cases have %d doubtful items", doubts[n], n)
		}
	}
	if n := len(smallCases()); n < 200 {
		t.Errorf("just %d cases are small", n)
	}
}

// P4.5: the errors of Divided in their order: that with one, that with other, doubtful items of either, leaves of both.
func TestDividedErrors(t *testing.T) {
	b := bookOf(small)
	zero, doubt := items(0), []api.CpItem{item(0, 1)}
	wrong, long := []api.CpItem{item(8)}, make([]api.CpItem, api.MaxCpItems+1)
	unsorted := []api.CpItem{item(2, 1)}
	four := []api.CpItem{item(0, 1), item(0, 1), item(0, 1), item(0, 1)}
	for i, x := range []struct {
		b          api.QuBook
		one, other []api.CpItem
		e          api.Errno
	}{
		{api.QuBook{}, wrong, long, api.ErrLong},
		{api.QuBook{Signed: -1}, wrong, long, api.ErrRange},
		{bookOf(tooLong), wrong, wrong, api.ErrLong},
		{b, wrong, long, api.ErrNone},
		{b, long, wrong, api.ErrLong},
		{b, unsorted, long, api.ErrArg},
		{b, doubt, wrong, api.ErrNone},
		{b, zero, long, api.ErrLong},
		{b, zero, unsorted, api.ErrArg},
		{b, four, doubt, api.ErrLong},
		{b, doubt, four, api.ErrLong},
		{b, zero, doubt, api.ErrArg},
		{b, doubt, zero, api.ErrArg},
		{b, doubt, nil, api.ErrArg},
		{b, nil, doubt, api.ErrArg},
		{b, items(0, 1), []api.CpItem{item(0), item(2, 3)}, api.ErrArg},
		{b, zero, zero, api.ErrTwice},
		{b, items(no, 3, 2), items(4, no, 2), api.ErrTwice},
		{b, items(7, 7), items(7), api.ErrTwice},
	} {
		list, e := copy.Divided(x.b, x.one, x.other)
		if len(list) != 0 || e != x.e {
			t.Errorf("%d: Divided = %v, %d", i, list, e)
		}
	}
}

// P4.6: Ask of a case without a doubtful item.
func TestAskNothing(t *testing.T) {
	for _, c := range []api.CpCase{caseOf(small), caseOf(nothing, item()), wholeOf(most), bindingOf(small, 0, no, 0)} {
		if n, e := copy.Ask(c); n != 0 || e != api.ErrNone {
			t.Errorf("Ask(%v) = %d, %d", c, n, e)
		}
	}
}

// P4.15, P1: numbers far beyond all limits in any part of a case.
func TestAnyNumbers(t *testing.T) {
	for _, n := range []int{math.MinInt, math.MaxInt, -1, 1 << 40} {
		for i, c := range []api.CpCase{
			{Book: api.QuBook{Signed: n}},
			{Book: api.QuBook{Gatherings: []api.QuGathering{{Leaves: n}}}},
			{Book: api.QuBook{Gatherings: []api.QuGathering{{Sig: api.QuSig{Round: n, Letter: n}, Leaves: 4}}}},
			{Book: api.QuBook{Gatherings: []api.QuGathering{{Sig: api.QuSig{Round: 1}, Leaves: 4, Changes: []api.QuChange{{Kind: 3, At: n, Many: n}}}}}},
			caseOf(small, item(n)), caseOf(small, item(0, n)), caseOf(small, item(n, n)),
		} {
			for name, e := range errorsOf(c) {
				if e == api.OK || e < 0 {
					t.Errorf("%d, %d: %s: %d", n, i, name, e)
				}
			}
			if list, e := copy.Divided(c.Book, c.Items, c.Items); e == api.OK || len(list) != 0 {
				t.Errorf("%d, %d: Divided = %v, %d", n, i, list, e)
			}
		}
	}
}
