package owner_test

import (
	"fmt"
	"math"
	"slices"
	"strings"
	"testing"

	"duodecimo/api"
	"duodecimo/owner"
)

// years is the example of other years.
func years(printed, now int) api.OwCase {
	return but(func(c *api.OwCase) { c.Printed, c.Now = printed, now })
}

// owners is the example with other owners, without marks.
func owners(list ...api.OwOwner) api.OwCase {
	return but(func(c *api.OwCase) { c.Owners, c.Marks = list, nil })
}

// onlyMarks is the example with other marks.
func onlyMarks(list ...api.OwMark) api.OwCase {
	return but(func(c *api.OwCase) { c.Marks = list })
}

// sales is the example with some sales.
func sales(list ...api.OwSale) api.OwCase {
	return but(func(c *api.OwCase) { c.Sales = list })
}

// checked is a case, and what Check returns.
type checked struct {
	c        api.OwCase
	part, at int
	e        api.Errno
}

// A mark and a sale with all errors that one can have.
var (
	worstMark = mark(9, 0, -1, 9)
	worstSale = sale(0, 9, 9)
)

// checkedYears are cases with errors of years, and without.
func checkedYears() []checked {
	list := []checked{
		{example(), 0, 0, api.OK},
		{second(), 0, 0, api.OK},
		{lived(1450, 1850, 0), 0, 0, api.OK},
		{lived(1700, 1700, 6), 0, 0, api.OK},
		{api.OwCase{}, 1, 0, api.ErrRange},
		{api.OwCase{Owners: []api.OwOwner{{}}, Marks: []api.OwMark{worstMark}, Sales: []api.OwSale{worstSale}}, 1, 0, api.ErrRange},
		{api.OwCase{Printed: 1601, Now: 1600, Owners: []api.OwOwner{{}}, Marks: []api.OwMark{worstMark}, Sales: []api.OwSale{worstSale}}, 1, 0, api.ErrArg},
		{years(1700, 1600), 1, 0, api.ErrArg},
		{years(1850, 1450), 1, 0, api.ErrArg},
		{years(1851, 1449), 1, 0, api.ErrRange},
		{years(1700, 0), 1, 0, api.ErrRange},
		{years(9999, 1600), 1, 0, api.ErrRange},
	}
	for _, n := range numbers(1450, 1600, 1700, 1850) {
		e := errorIf(n < 1450 || n > 1850, api.ErrRange, api.ErrArg)
		list = append(list, checkedIf(n >= 1450 && n <= 1700, api.OwCase{Printed: n, Now: 1700}, 1, 0, e))
		list = append(list, checkedIf(n >= 1600 && n <= 1850, api.OwCase{Printed: 1600, Now: n}, 1, 0, e))
	}
	return list
}

// checkedOwners are cases with errors of owners, and without.
func checkedOwners() []checked {
	long := strings.Repeat("a", api.MaxName)
	p, q := person("p", 0, 9999), person("q", 1600, 1600)
	list := []checked{
		{owners(), 0, 0, api.OK},
		{lived(1600, 1700, 7), 2, 0, api.ErrLong},
		{owners(make([]api.OwOwner, 7)...), 2, 0, api.ErrLong},
		{owners(p, person("", -1, -2), person("p", 0, 0)), 2, 1, api.ErrForm},
		{owners(p, person("Q", 0, 0)), 2, 1, api.ErrForm},
		{owners(p, person(long, 0, 0), person(long+"a", 0, 0)), 2, 2, api.ErrForm},
		{owners(p, q, person("p", -1, -2), person("", 0, 0)), 2, 2, api.ErrTwice},
		{owners(p, p), 2, 1, api.ErrTwice},
		{owners(p, person("q", 10000, -1), p), 2, 1, api.ErrRange},
		{owners(person("p", 5, 4), p), 2, 0, api.ErrArg},
		{owners(p, person("q", 9999, 0), p), 2, 1, api.ErrArg},
		{owners(p, person("q", 0, 0), person("r", 9999, 9999)), 0, 0, api.OK},
		{but(func(c *api.OwCase) { c.Owners[3].Name, c.Marks = "ann", []api.OwMark{worstMark} }), 2, 3, api.ErrTwice},
	}
	for _, n := range numbers(0, 9999) {
		in := n >= 0 && n <= 9999
		list = append(list, checkedIf(in, owners(p, person("n", n, 9999)), 2, 1, api.ErrRange))
		list = append(list, checkedIf(in, owners(person("n", 0, n), p), 2, 0, api.ErrRange))
	}
	return list
}

// checkedMarks are cases with errors of marks, and without.
func checkedMarks() []checked {
	m := mark(ann, 1600, 1640, none)
	list := []checked{
		{onlyMarks(), 0, 0, api.OK},
		{onlyMarks(slices.Repeat([]api.OwMark{m}, 8)...), 0, 0, api.OK},
		{onlyMarks(slices.Repeat([]api.OwMark{m}, 9)...), 3, 0, api.ErrLong},
		{onlyMarks(slices.Repeat([]api.OwMark{worstMark}, 9)...), 3, 0, api.ErrLong},
		{onlyMarks(m, worstMark, m), 3, 1, api.ErrNone},
		{onlyMarks(m, mark(4, 0, -1, 0), worstMark), 3, 1, api.ErrNone},
		{onlyMarks(mark(ann, 0, -1, 0)), 3, 0, api.ErrNone},
		{onlyMarks(m, mark(ann, 1600, 1599, 1)), 3, 1, api.ErrNone},
		{onlyMarks(m, mark(ann, 1600, 1600, 0), mark(ann, 1600, 1600, 2)), 3, 2, api.ErrNone},
		{onlyMarks(m, mark(ann, 1600, 1600, 0), mark(ann, 1600, 1600, 1)), 0, 0, api.OK},
		{onlyMarks(m, mark(ann, 1700, 1599, 0), worstMark), 3, 1, api.ErrRange},
		{onlyMarks(mark(ann, 1701, 1600, none)), 3, 0, api.ErrRange},
		{onlyMarks(mark(ann, 1500, 1701, none)), 3, 0, api.ErrRange},
		{onlyMarks(m, mark(ann, 1700, 1600, 0), worstMark), 3, 1, api.ErrArg},
		{onlyMarks(m, mark(ann, 1600, 1641, 0)), 3, 1, api.ErrArg},
		{onlyMarks(mark(ann, 1600, 1700, none)), 3, 0, api.ErrArg},
		{onlyMarks(mark(ann, 1660, 1700, none), mark(ann, 1601, 1600, 0)), 3, 1, api.ErrArg},
		{but(func(c *api.OwCase) { c.Marks[2].Upon, c.Sales = 2, []api.OwSale{worstSale} }), 3, 2, api.ErrNone},
		{api.OwCase{Printed: 1600, Now: 1600, Marks: []api.OwMark{mark(0, 1600, 1600, none)}}, 3, 0, api.ErrNone},
	}
	for _, n := range numbers(0, 3) {
		list = append(list, checkedIf(n >= 0 && n <= 3, onlyMarks(m, mark(n, 1600, 1600, none)), 3, 1, api.ErrNone))
		list = append(list, checkedIf(n >= -1 && n <= 2, onlyMarks(m, m, m, mark(ann, 1600, 1600, n)), 3, 3, api.ErrNone))
	}
	for _, n := range numbers(1600, 1700) {
		list = append(list, checkedIf(n >= 1600 && n <= 1700, onlyMarks(mark(ann, n, n, none)), 3, 0, api.ErrRange))
	}
	for _, n := range numbers(1650, 1690) {
		in, e := n >= 1650 && n <= 1690, errorIf(n < 1600 || n > 1700, api.ErrRange, api.ErrArg)
		list = append(list, checkedIf(in, onlyMarks(mark(ann, 1650, n, none)), 3, 0, e), checkedIf(in, onlyMarks(mark(ann, n, 1690, none)), 3, 0, e))
	}
	return list
}

// checkedSales are cases with errors of sales, and without.
func checkedSales() []checked {
	s := sale(1650, ann, ben)
	list := []checked{
		{sales(s, s, s, s), 0, 0, api.OK},
		{sales(s, s, s, s, s), 4, 0, api.ErrLong},
		{sales(slices.Repeat([]api.OwSale{worstSale}, 5)...), 4, 0, api.ErrLong},
		{sales(s, worstSale, worstSale), 4, 1, api.ErrRange},
		{sales(s, sale(1650, 9, 9), worstSale), 4, 1, api.ErrNone},
		{sales(s, sale(1650, ann, ann), worstSale), 4, 1, api.ErrArg},
		{sales(sale(1650, none, none)), 4, 0, api.ErrArg},
		{sales(sale(1650, none, dot), sale(1650, dot, none)), 0, 0, api.OK},
		{sales(sale(1701, 4, 4)), 4, 0, api.ErrRange},
		{sales(sale(1599, none, none)), 4, 0, api.ErrRange},
		{sales(s, s, sale(1650, -2, -2)), 4, 2, api.ErrNone},
		{api.OwCase{Printed: 1600, Now: 1600, Sales: []api.OwSale{sale(1600, 0, none)}}, 4, 0, api.ErrNone},
	}
	for _, n := range numbers(0, 3) {
		in, e := n >= -1 && n <= 3 && n != ben, errorIf(n == ben, api.ErrArg, api.ErrNone)
		list = append(list, checkedIf(in, sales(sale(1650, n, ben)), 4, 0, e), checkedIf(in, sales(s, sale(1650, ben, n)), 4, 1, e))
	}
	for _, n := range numbers(1600, 1700) {
		list = append(list, checkedIf(n >= 1600 && n <= 1700, sales(sale(n, ann, ben)), 4, 0, api.ErrRange))
	}
	return list
}

// errorIf is one of two errors.
func errorIf(isSo bool, e, other api.Errno) api.Errno {
	if isSo {
		return e
	}
	return other
}

// checkedIf is a case without an error if this is so, otherwise one with this error.
func checkedIf(isSo bool, c api.OwCase, part, at int, e api.Errno) checked {
	if isSo {
		return checked{c, 0, 0, api.OK}
	}
	return checked{c, part, at, e}
}

// errorsOf are the errors of all functions but Check, each called with errors of its own as well; none may return anything else with an error.
func errorsOf(c api.OwCase) map[string]api.Errno {
	holds, unknown, e1 := owner.Chain(c)
	why, e2 := owner.Why(c, []int{-1, -1})
	before, e3 := owner.Before(c, -1, -1)
	year, e4 := owner.Year(c, -1)
	owned, e5 := owner.Owned(c, 0)
	both, e6 := owner.Both(c, api.OwCase{}, 0)
	forged, e7 := owner.Forged(c)
	errors := map[string]api.Errno{"Chain": e1, "Why": e2, "Before": e3, "Year": e4, "Owned": e5, "Both": e6, "Forged": e7}
	if len(holds)+len(owned)+len(both)+len(forged) > 0 || unknown != 0 || why != 0 || before != 0 || year != span(0, 0) {
		errors["a result with an error"] = -1
	}
	return errors
}

// P8.1: the errors of a case in their order, and those before it of all other functions.
func TestCheck(t *testing.T) {
	for i, x := range slices.Concat(checkedYears(), checkedOwners(), checkedMarks(), checkedSales()) {
		part, at, e := owner.Check(x.c)
		if part != x.part || at != x.at || e != x.e {
			t.Errorf("%d: Check(%v) = %d, %d, %d, not %d, %d, %d", i, x.c, part, at, e, x.part, x.at, x.e)
		}
		if x.e == api.OK {
			continue
		}
		for name, e := range errorsOf(x.c) {
			if e != x.e {
				t.Errorf("%d: %s: %d", i, name, e)
			}
		}
	}
}

// P8.1: all cases that the other tests are about have no error.
func TestCheckCases(t *testing.T) {
	for _, c := range slices.Concat(cases(), largest(), small()) {
		if part, at, e := owner.Check(c); part != 0 || at != 0 || e != api.OK {
			t.Errorf("Check(%v) = %d, %d, %d", c, part, at, e)
		}
	}
}

// chainless is the example with marks and sales that leave no chain; without marks there is one, if it is not sold, too.
func chainless(soldTwice bool) api.OwCase {
	c := marked(example(), mark(dot, 1610, 1615, none))
	if soldTwice {
		c = sold(c, sale(1610, ann, ben), sale(1611, ann, ben))
	}
	return c
}

// P8.2: an index that is none comes before an owner who is there twice, and this before no chain; Why returns ErrDown then, and all others ErrZero.
func TestWhyErrors(t *testing.T) {
	for _, c := range []api.OwCase{example(), chainless(false), chainless(true)} {
		for i, x := range []struct {
			order []int
			e     api.Errno
		}{
			{[]int{0, 1, 4}, api.ErrNone}, {[]int{-1}, api.ErrNone}, {[]int{0, 0, 0, 0, 0, 0, 0, 9}, api.ErrNone}, {[]int{math.MinInt, math.MaxInt, 1, 1}, api.ErrNone}, {make([]int, 1<<16), api.ErrTwice},
			{[]int{0, 0}, api.ErrTwice}, {[]int{3, 1, 2, 0, 3}, api.ErrTwice}, {[]int{0, 1, 2, 3, 1}, api.ErrTwice}, {nil, api.ErrDown}, {[]int{3}, api.ErrDown}, {[]int{3, 2, 1, 0}, api.ErrDown},
		} {
			if n, e := owner.Why(c, x.order); n != 0 || e != x.e {
				t.Errorf("%d: Why = %d, %d", i, n, e)
			}
		}
	}
	if _, e := owner.Why(lived(1600, 1601, 0), []int{0}); e != api.ErrNone {
		t.Errorf("Why: %d", e)
	}
}

// P8.3 and P8.4: indices, years and owners who are the same come before no chain.
func TestIndexErrors(t *testing.T) {
	for _, c := range []api.OwCase{example(), chainless(false), chainless(true)} {
		zero := errorIf(same(c, example()), api.OK, api.ErrZero)
		for _, n := range numbers(0, 3) {
			if s, e := owner.Year(c, n); e != errorIf(n >= 0 && n < len(c.Marks), zero, api.ErrNone) || e != api.OK && s != span(0, 0) {
				t.Errorf("Year of %d = %v, %d", n, s, e)
			}
			for _, m := range numbers(0, 3) {
				want := errorIf(min(n, m) < 0 || max(n, m) > 3, api.ErrNone, errorIf(n == m, api.ErrArg, zero))
				if is, e := owner.Before(c, n, m); e != want || e != api.OK && is != 0 {
					t.Errorf("Before of %d, %d = %d, %d, not %d", n, m, is, e, want)
				}
			}
		}
		for _, year := range numbers(1600, 1700) {
			want := errorIf(year < 1600 || year > 1700, api.ErrRange, zero)
			if list, e := owner.Owned(c, year); e != want || e != api.OK && len(list) > 0 {
				t.Errorf("Owned in %d = %v, %d, not %d", year, list, e, want)
			}
		}
		holds, unknown, e := owner.Chain(c)
		if e != zero || e != api.OK && len(holds)+unknown > 0 {
			t.Errorf("Chain = %v, %d, %d", holds, unknown, e)
		}
	}
}

// P8.4: of Both the errors of one case come before those of the other one, then years, and then no chain of either.
func TestBothErrors(t *testing.T) {
	bad, worse := years(1700, 1600), years(0, 0)
	late := lived(1650, 1690, 2)
	for i, x := range []struct {
		c, other api.OwCase
		year     int
		e        api.Errno
	}{
		{bad, worse, 0, api.ErrArg}, {worse, bad, 0, api.ErrRange}, {example(), bad, 0, api.ErrArg}, {chainless(true), worse, 0, api.ErrRange}, {bad, chainless(true), 1650, api.ErrArg},
		{example(), late, 1649, api.ErrRange}, {late, example(), 1649, api.ErrRange}, {example(), late, 1691, api.ErrRange}, {late, example(), 1691, api.ErrRange},
		{example(), late, 1650, api.OK}, {late, example(), 1690, api.OK}, {example(), second(), math.MaxInt, api.ErrRange}, {example(), second(), math.MinInt, api.ErrRange},
		{chainless(false), late, 1649, api.ErrRange}, {late, chainless(false), 1649, api.ErrRange}, {chainless(false), late, 1650, api.ErrZero}, {late, chainless(false), 1650, api.ErrZero},
		{chainless(true), chainless(false), 1650, api.ErrZero}, {chainless(true), chainless(false), 1701, api.ErrRange},
	} {
		if list, e := owner.Both(x.c, x.other, x.year); e != x.e || e != api.OK && len(list) > 0 {
			t.Errorf("%d: Both = %v, %d", i, list, e)
		}
	}
}

// P8.5: there may be no chain even without marks.
func TestForgedErrors(t *testing.T) {
	list, e := owner.Forged(chainless(false))
	expectList(t, "Forged", list, e, 3)
	bad := lived(1600, 1610, 1)
	bad.Owners[0].Died = 1599
	for i, c := range []api.OwCase{chainless(true), sold(bad, sale(1600, none, 0)), sold(lived(1600, 1610, 2), sale(1600, 0, 1), sale(1601, 1, 0))} {
		if list, e := owner.Forged(c); len(list) > 0 || e != api.ErrDown {
			t.Errorf("%d: Forged = %v, %d", i, list, e)
		}
	}
}

// P8.15: all functions return for any numbers.
func TestAnyArguments(t *testing.T) {
	ints := numbers(0, 3, 1600)
	for _, n := range ints {
		for _, m := range ints {
			for _, c := range []api.OwCase{
				example(), years(n, m), owners(person("n", n, m)), onlyMarks(mark(n, 1600, 1600, m)), onlyMarks(mark(ann, n, m, none)),
				sales(sale(1600, n, m)), sales(sale(n, m, ann)), but(func(c *api.OwCase) { c.Owners[0].Born, c.Owners[1].Died = n, m }),
			} {
				owner.Check(c)
				errorsOf(c)
				owner.Why(c, []int{n, m})
				owner.Before(c, n, m)
				owner.Year(c, n)
				owner.Owned(c, m)
				owner.Both(c, example(), n)
				owner.Both(example(), c, m)
			}
		}
	}
	huge := api.OwCase{Printed: 1600, Now: 1700, Owners: make([]api.OwOwner, 1<<16), Marks: make([]api.OwMark, 1<<16), Sales: make([]api.OwSale, 1<<16)}
	for part := 2; part <= 4; part++ {
		if is, at, e := owner.Check(huge); is != part || at != 0 || e != api.ErrLong {
			t.Errorf("Check = %d, %d, %d", is, at, e)
		}
		if huge.Owners = nil; part == 3 {
			huge.Marks = nil
		}
	}
}

// P8.15: no argument is changed, nor the memory behind it.
func TestNotChanged(t *testing.T) {
	t.Parallel()
	for i, c := range cases()[:80] {
		d := cloned(c)
		c = cloned(c)
		c.Owners = append(c.Owners, person("behind", 1, 2))[:len(c.Owners)]
		c.Marks = append(c.Marks, mark(7, 1, 2, 3))[:len(c.Marks)]
		c.Sales = append(c.Sales, sale(1, 2, 3))[:len(c.Sales)]
		order := append([]int{0, 1}, 7)[:2]
		other := cloned(c)
		if x := tell(c); differ(x, answers()[i]) != "" {
			t.Errorf("%v: %s: %v, was %v", c, differ(x, answers()[i]), x, answers()[i])
		}
		owner.Check(c)
		owner.Why(c, order)
		owner.Both(c, other, c.Printed)
		owner.Both(other, c, c.Now)
		if !same(c, d) || !same(other, d) || !slices.Equal(order[:3], []int{0, 1, 7}) {
			t.Errorf("%v became %v, %v", d, c, other)
		}
		owners, marks, sales := len(c.Owners), len(c.Marks), len(c.Sales)
		if c.Owners[:owners+1][owners] != person("behind", 1, 2) || c.Marks[:marks+1][marks] != mark(7, 1, 2, 3) || c.Sales[:sales+1][sales] != sale(1, 2, 3) {
			t.Errorf("what is behind %v was changed", d)
		}
	}
}

// P8.15: results are new memory: what is written there is seen neither in the arguments, nor in other results.
func TestNewMemory(t *testing.T) {
	t.Parallel()
	for i, c := range slices.Concat(cases()[:30], []api.OwCase{chainless(false)}) {
		d := cloned(c)
		want := fmt.Sprint(tell(c))
		x := tell(c)
		both, _ := owner.Both(c, c, c.Now)
		for _, list := range append(x.owned, x.forged, both) {
			scribble(list)
		}
		holds := x.holds[:cap(x.holds)]
		for k := range holds {
			holds[k] = hold(-7, -7, -7)
		}
		if !same(c, d) || fmt.Sprint(tell(c)) != want {
			t.Errorf("%d: %v became %v", i, d, c)
		}
	}
}

// scribble overwrites a list, also beyond its end.
func scribble(list []int) {
	list = list[:cap(list)]
	for i := range list {
		list[i] = -7
	}
}
