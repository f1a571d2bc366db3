package paper_test

import (
	"fmt"
	"math"
	"slices"
	"strings"
	"testing"

	"duodecimo/api"
	"duodecimo/paper"
)

// changed is the example after a change.
func changed(change func(*api.PpCase)) api.PpCase {
	c := example()
	change(&c)
	return c
}

// stocks is the example with other stocks.
func stocks(list ...api.PpStock) api.PpCase {
	return changed(func(c *api.PpCase) { c.Stocks = list })
}

// reams is the example with other reams.
func reams(list ...api.PpReam) api.PpCase {
	return changed(func(c *api.PpCase) { c.Reams = list })
}

// checked is a case, and what Check returns.
type checked struct {
	c        api.PpCase
	part, at int
	e        api.Errno
}

// checkedCases are cases with and without errors.
func checkedCases() []checked {
	long := strings.Repeat("a", api.MaxName)
	a, b, d := stock("a", 1600, 1600), stock("b", 1450, 1850), stock("d", 1450, 1450)
	r, s := ream(0, 5, 5), seen(0, 0)
	bad := ream(9, 0, 0)
	list := []checked{
		{example(), 0, 0, api.OK},
		{contradictory(), 0, 0, api.OK},
		{tooSmall(), 0, 0, api.OK},
		{caseOf(500, 5, []api.PpReam{r}), 0, 0, api.OK},
		{api.PpCase{}, 1, 0, api.ErrRange},
		{api.PpCase{Run: 1}, 2, 0, api.ErrLong},
		{api.PpCase{Run: 1, Stocks: []api.PpStock{a}}, 3, 0, api.ErrLong},
		{api.PpCase{Run: 1, Stocks: []api.PpStock{a}, Reams: []api.PpReam{r}}, 4, 0, api.ErrRange},
		{api.PpCase{Run: 1, Stocks: []api.PpStock{a}, Reams: []api.PpReam{r}, Gatherings: 1}, 0, 0, api.OK},
		{api.PpCase{Run: 501, Stocks: make([]api.PpStock, 5)}, 1, 0, api.ErrRange},
		{stocks(), 2, 0, api.ErrLong},
		{stocks(make([]api.PpStock, 5)...), 2, 0, api.ErrLong},
		{stocks(a, b, d, stock("e", 1, 1)), 2, 3, api.ErrRange},
		{stocks(a, b, d, stock("e", 1850, 1850)), 0, 0, api.OK},
		{stocks(a, stock("", 0, 0), stock("a", 0, 0)), 2, 1, api.ErrForm},
		{stocks(a, stock("B", 1600, 1600), d), 2, 1, api.ErrForm},
		{stocks(stock(long, 1600, 1600), stock(long+"a", 1600, 1600), d), 2, 1, api.ErrForm},
		{stocks(a, b, stock("a", 1449, 1448)), 2, 2, api.ErrTwice},
		{stocks(a, a, stock("", 0, 0)), 2, 1, api.ErrTwice},
		{stocks(a, stock("b", 1700, 1449), stock("", 0, 0)), 2, 1, api.ErrRange},
		{stocks(stock("b", 1851, 1850), a, d), 2, 0, api.ErrRange},
		{stocks(a, stock("b", 1700, 1699), d), 2, 1, api.ErrArg},
		{stocks(a, stock("b", 1850, 1450), stock("a", 1, 1)), 2, 1, api.ErrArg},
		{changed(func(c *api.PpCase) { c.Stocks[2].Name, c.Reams = "pot", nil }), 2, 2, api.ErrTwice},
		{reams(), 3, 0, api.ErrLong},
		{reams(bad, bad, bad, bad, bad), 3, 0, api.ErrLong},
		{reams(r, r, r, bad), 3, 3, api.ErrNone},
		{reams(r, r, r, r), 0, 0, api.OK},
		{reams(r, ream(3, 0, 1), bad), 3, 1, api.ErrNone},
		{reams(ream(-1, 9, 8)), 3, 0, api.ErrNone},
		{reams(r, ream(2, 0, 1), bad), 3, 1, api.ErrRange},
		{reams(r, ream(2, 2000, 2001), bad), 3, 1, api.ErrRange},
		{reams(ream(2, 2001, 5)), 3, 0, api.ErrRange},
		{reams(ream(2, 5, 0)), 3, 0, api.ErrRange},
		{reams(ream(0, math.MaxInt, math.MinInt)), 3, 0, api.ErrRange},
		{reams(r, ream(1, 5, 4), bad), 3, 1, api.ErrArg},
		{reams(r, ream(1, 2000, 1)), 3, 1, api.ErrArg},
		{reams(r, ream(1, 5, 8), bad), 3, 1, api.ErrArg},
		{reams(r, ream(1, 1, 2000)), 3, 1, api.ErrArg},
		{reams(ream(1, 1, 1), ream(1, 1, 3), ream(1, 1998, 2000), ream(1, 2000, 2000)), 0, 0, api.OK},
		{changed(func(c *api.PpCase) { c.Reams[0].Stock, c.Gatherings = 3, 0 }), 3, 0, api.ErrNone},
		{changed(func(c *api.PpCase) { c.Reams[2].Sheets.Hi, c.Gatherings = 11, 6 }), 3, 2, api.ErrArg},
		{changed(func(c *api.PpCase) { c.Gatherings, c.Seen = 6, make([]api.PpSeen, 9) }), 4, 0, api.ErrRange},
		{seeing(example()), 0, 0, api.OK},
		{seeing(example(), make([]api.PpSeen, 8)...), 0, 0, api.OK},
		{seeing(example(), make([]api.PpSeen, 9)...), 5, 0, api.ErrLong},
		{seeing(example(), slices.Repeat([]api.PpSeen{seen(-1, 9)}, 9)...), 5, 0, api.ErrLong},
		{seeing(example(), s, seen(2, 2), seen(3, 0), seen(9, 9)), 5, 2, api.ErrNone},
		{seeing(example(), s, seen(0, 3)), 5, 1, api.ErrNone},
		{seeing(example(), seen(-1, 0)), 5, 0, api.ErrNone},
		{seeing(example(), seen(0, -1)), 5, 0, api.ErrNone},
		{changed(func(c *api.PpCase) { c.Gatherings = 1 }), 5, 1, api.ErrNone},
	}
	within := func(c api.PpCase, n, lo, hi, part, at int) {
		if n >= lo && n <= hi {
			list = append(list, checked{c, 0, 0, api.OK})
		} else {
			list = append(list, checked{c, part, at, api.ErrRange})
		}
	}
	for _, n := range numbers(0, 1, 500) {
		within(changed(func(c *api.PpCase) { c.Run = n }), n, 1, 500, 1, 0)
	}
	for _, n := range numbers(1450, 1850) {
		within(stocks(a, b, stock("n", n, 1850)), n, 1450, 1850, 2, 2)
		within(stocks(a, stock("n", 1450, n), d), n, 1450, 1850, 2, 1)
	}
	for _, n := range numbers(1, 2000) {
		within(reams(r, ream(0, n, min(max(n, 1), 2000))), n, 1, 2000, 3, 1)
		within(reams(r, ream(0, max(min(n, 2000), 1), n)), n, 1, 2000, 3, 1)
	}
	for _, n := range numbers(1, 5) {
		within(changed(func(c *api.PpCase) { c.Gatherings, c.Seen = n, nil }), n, 1, 5, 4, 0)
	}
	return list
}

// errorsOf are the errors of all functions but Check, each called with errors of its own as well; none may return anything else with an error.
func errorsOf(c api.PpCase) map[string]api.Errno {
	orders, e1 := paper.Orders(c)
	before, e2 := paper.Before(c, -1, -1)
	sure, may, e3 := paper.Stocks(c, 99)
	sheets, reams, e4 := paper.Left(c)
	years, e5 := paper.Year(c)
	wrong, e6 := paper.Wrong(c)
	gathering, left, e7 := paper.Ask(c)
	list := map[string]api.Errno{"Orders": e1, "Before": e2, "Stocks": e3, "Left": e4, "Year": e5, "Wrong": e6, "Ask": e7}
	if len(orders)+before+len(sure)+len(may)+len(wrong)+gathering+left != 0 || sheets != span(0, 0) || reams != span(0, 0) || years != span(0, 0) {
		list["a result with an error"] = -1
	}
	return list
}

// P6.1: the errors of a case in their order, and those before it of all other functions.
func TestCheck(t *testing.T) {
	for i, c := range checkedCases() {
		part, at, e := paper.Check(c.c)
		if part != c.part || at != c.at || e != c.e {
			t.Errorf("%d: Check(%v) = %d, %d, %d", i, c.c, part, at, e)
		}
		if c.e == api.OK {
			continue
		}
		for name, e := range errorsOf(c.c) {
			if e != c.e {
				t.Errorf("%d: %s: %d", i, name, e)
			}
		}
	}
}

// P6.1: all cases that the other tests are about have no error.
func TestCheckCases(t *testing.T) {
	for _, c := range cases() {
		if part, at, e := paper.Check(c); part != 0 || at != 0 || e != api.OK {
			t.Errorf("Check(%v) = %d, %d, %d", c, part, at, e)
		}
	}
}

// P6.2: what is no gathering comes before two that are the same, and both before no truth that agrees.
func TestBeforeErrors(t *testing.T) {
	for _, c := range []api.PpCase{example(), contradictory(), tooSmall()} {
		for _, a := range numbers(0, 3) {
			for _, b := range numbers(0, 3) {
				want := api.OK
				switch {
				case a < 0 || a > 2 || b < 0 || b > 2:
					want = api.ErrNone
				case a == b:
					want = api.ErrArg
				case !same(c, example()):
					want = api.ErrZero
				}
				if n, e := paper.Before(c, a, b); e != want || e != api.OK && n != 0 {
					t.Errorf("Before(%v, %d, %d) = %d, %d", c, a, b, n, e)
				}
			}
		}
	}
}

// P6.3: what is no gathering comes before no truth that agrees.
func TestStocksErrors(t *testing.T) {
	for _, c := range []api.PpCase{example(), contradictory(), tooSmall()} {
		for _, g := range numbers(0, 3) {
			want := api.OK
			switch {
			case g < 0 || g > 2:
				want = api.ErrNone
			case !same(c, example()):
				want = api.ErrZero
			}
			if sure, may, e := paper.Stocks(c, g); e != want || (e == api.OK) != (len(may) > 0) || e != api.OK && len(sure) > 0 {
				t.Errorf("Stocks(%v, %d) = %v, %v, %d", c, g, sure, may, e)
			}
		}
	}
}

// P6.2 to P6.6: if no truth agrees, Wrong alone says something, unless the pile is too small; and then nothing needs to be seen.
func TestZero(t *testing.T) {
	for i, c := range []struct {
		c           api.PpCase
		zero, wrong api.Errno
	}{
		{example(), api.OK, api.OK},
		{contradictory(), api.ErrZero, api.OK},
		{tooSmall(), api.ErrZero, api.ErrDown},
		{seeing(tooSmall(), seen(0, 0), seen(0, 2)), api.ErrZero, api.ErrDown},
		{caseOf(35, 1, example().Reams), api.OK, api.OK},
		{caseOf(36, 1, example().Reams), api.ErrZero, api.ErrDown},
		{caseOf(7, 5, example().Reams), api.OK, api.OK},
		{caseOf(9, 4, example().Reams), api.ErrZero, api.ErrDown},
		{caseOf(500, 5, []api.PpReam{ream(0, 2000, 2000), ream(0, 497, 499)}), api.ErrZero, api.ErrDown},
		{caseOf(500, 5, []api.PpReam{ream(0, 2000, 2000), ream(0, 498, 500)}), api.OK, api.OK},
	} {
		list := errorsOf(c.c)
		for name, e := range list {
			want := c.zero
			switch name {
			case "Wrong":
				want = c.wrong
			case "Before", "Stocks":
				want = api.ErrNone
			case "a result with an error":
				continue
			}
			if e != want {
				t.Errorf("%d: %s: %d", i, name, e)
			}
		}
		if a := tell(t, c.c); a.zero != c.zero || a.down != c.wrong || a.down != api.OK && len(a.wrong) > 0 {
			t.Errorf("%d: %v", i, a)
		}
	}
}

// With no truth that agrees all other results are zero.
func TestNothingWithAnError(t *testing.T) {
	for i, c := range cases() {
		a := answers(t)[i]
		if a.zero == api.OK {
			continue
		}
		before := slices.Concat(a.before...)
		if len(a.orders)+len(slices.Concat(a.sure...))+len(slices.Concat(a.may...))+a.gathering+a.left != 0 || slices.ContainsFunc(before, func(n int) bool { return n != 0 }) {
			t.Errorf("%v: %v", c, a)
		}
		if a.sheets != span(0, 0) || a.reams != span(0, 0) || a.years != span(0, 0) {
			t.Errorf("%v: %v", c, a)
		}
	}
}

// P6.15: all functions return for any numbers.
func TestAnyArguments(t *testing.T) {
	ints := numbers(0, 1, 5, 500)
	for _, n := range ints {
		for _, m := range ints {
			for _, c := range []api.PpCase{
				changed(func(c *api.PpCase) { c.Run, c.Gatherings = n, m }),
				changed(func(c *api.PpCase) { c.Gatherings, c.Seen = n, []api.PpSeen{seen(m, n), seen(n, m)} }),
				stocks(stock("a", n, m)), stocks(stock("a", m, m), stock("b", n, n), stock("d", n, m)),
				reams(ream(n, m, m)), reams(ream(0, n, m)), reams(ream(m, n, math.MaxInt), ream(0, math.MinInt, m)),
				seeing(example(), seen(n, m)),
			} {
				paper.Check(c)
				errorsOf(c)
				paper.Before(c, n, m)
				paper.Stocks(c, n)
			}
		}
	}
	huge := api.PpCase{Run: 1, Stocks: make([]api.PpStock, 1<<16), Reams: make([]api.PpReam, 1<<16), Gatherings: 3, Seen: make([]api.PpSeen, 1<<16)}
	for _, part := range []int{2, 3, 5} {
		if at, where, e := paper.Check(huge); at != part || where != 0 || e != api.ErrLong {
			t.Errorf("Check = %d, %d, %d", at, where, e)
		}
		if part == 2 {
			huge.Stocks = example().Stocks
		} else {
			huge.Reams = example().Reams
		}
	}
}

// P6.15: no argument is changed, nor the memory behind it.
func TestNotChanged(t *testing.T) {
	for _, c := range append(cases()[:80:80], example(), contradictory()) {
		c = cloned(c)
		c.Stocks = append(c.Stocks, stock("behind", 1, 2))[:len(c.Stocks)]
		c.Reams = append(c.Reams, ream(7, 7, 7))[:len(c.Reams)]
		c.Seen = append(c.Seen, seen(7, 7))[:len(c.Seen)]
		d := cloned(c)
		tell(t, c)
		if !same(c, d) {
			t.Errorf("%v became %v", d, c)
		}
		n, m, o := len(c.Stocks), len(c.Reams), len(c.Seen)
		if c.Stocks[:n+1][n] != stock("behind", 1, 2) || c.Reams[:m+1][m] != ream(7, 7, 7) || c.Seen[:o+1][o] != seen(7, 7) {
			t.Errorf("what is behind %v was changed", d)
		}
	}
}

// P6.15: results are new memory: what is written there is seen neither in the arguments, nor in other results, nor in other parts of the same one.
func TestNewMemory(t *testing.T) {
	for _, c := range []api.PpCase{example(), contradictory(), seeing(example())} {
		d := cloned(c)
		want := fmt.Sprint(tell(t, c))
		a := tell(t, c)
		for i, list := range a.orders {
			rest := fmt.Sprint(a.orders[i+1:])
			scribble(list)
			if fmt.Sprint(a.orders[i+1:]) != rest {
				t.Errorf("orders of %v share memory", c)
			}
		}
		for g := range a.sure {
			may := slices.Clone(a.may[g])
			scribble(a.sure[g])
			if !slices.Equal(a.may[g], may) {
				t.Errorf("stocks of %v share memory", c)
			}
			scribble(a.may[g])
		}
		scribble(a.wrong)
		if !same(c, d) || fmt.Sprint(tell(t, c)) != want {
			t.Errorf("%v became %v", d, c)
		}
	}
}

// scribble overwrites a list, also beyond its end.
func scribble(list []int) {
	list = list[:cap(list)]
	for i := range list {
		list[i] = -7
	}
}
