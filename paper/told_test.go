package paper_test

import (
	"slices"
	"testing"

	"duodecimo/api"
	"duodecimo/paper"
)

// The chapter's examples, one by one.
func TestExamples(t *testing.T) {
	a := tell(t, example())
	if !slices.EqualFunc(a.orders, [][]int{{1, 0, 2}, {1, 2, 0}, {2, 1, 0}}, slices.Equal) || a.zero != api.OK {
		t.Errorf("Orders = %v, %d", a.orders, a.zero)
	}
	if a.before[0][1] != api.PpAfter || a.before[2][1] != api.PpEither {
		t.Errorf("Before = %v", a.before)
	}
	if !slices.Equal(a.sure[1], []int{horn}) || !slices.Equal(a.may[1], []int{horn, pot}) || len(a.sure[2]) != 0 || !slices.Equal(a.may[2], []int{horn, pot, grapes}) {
		t.Errorf("Stocks = %v, %v", a.sure, a.may)
	}
	if a.sheets != span(3, 5) || a.reams != span(3, 3) || a.years != span(1605, 1610) {
		t.Errorf("Left = %v, %v; Year = %v", a.sheets, a.reams, a.years)
	}
	if len(a.wrong) != 0 || a.down != api.OK || a.gathering != 2 || a.left != 2 {
		t.Errorf("Wrong = %v, %d; Ask = %d, %d", a.wrong, a.down, a.gathering, a.left)
	}
	if wrong, e := paper.Wrong(contradictory()); !slices.Equal(wrong, []int{2}) || e != api.OK {
		t.Errorf("Wrong = %v, %d", wrong, e)
	}
	for s, want := range []int{2, 2, 1} {
		if orders, e := paper.Orders(example(seen(2, s))); len(orders) != want || e != api.OK {
			t.Errorf("with 2 on %d: Orders = %v, %d", s, orders, e)
		}
	}
}

// P6.2 to P6.6: all that is told of each case is so in its truths, by trying all piles, sheet by sheet, and all orders.
func TestTold(t *testing.T) {
	for i, c := range cases() {
		if a, b := answers(t)[i], models()[i]; differ(a, b) != "" {
			t.Errorf("%v: %s: %v, not %v", c, differ(a, b), a, b)
		}
	}
}

// Among the cases are enough of each kind: with nothing seen, with what cannot all be true, with a pile that is too small, and the largest ones.
func TestCases(t *testing.T) {
	kinds := map[string]int{}
	count := func(kind string, isSo bool) {
		if isSo {
			kinds[kind]++
		}
	}
	for i, c := range cases() {
		a := models()[i]
		count("nothing is seen", len(c.Seen) == 0 && a.zero == api.OK)
		count("something is wrong", len(a.wrong) > 0)
		count("much is wrong", len(a.wrong) > 1)
		count("too small", a.down != api.OK)
		count("one order", len(a.orders) == 1 && c.Gatherings > 2)
		count("some orders", len(a.orders) > 1 && len(a.orders) < len(permuted()[c.Gatherings]))
		count("all orders", len(a.orders) == 120)
		count("sheets known", a.zero == api.OK && a.sheets.Lo == a.sheets.Hi)
		count("sheets not known", a.sheets.Lo < a.sheets.Hi)
		count("pile used up", a.zero == api.OK && a.sheets.Lo == 0)
		count("reams not known", a.reams.Lo < a.reams.Hi)
		count("reams not all used", a.zero == api.OK && a.reams.Hi < len(c.Reams))
		count("year not known", a.years.Lo < a.years.Hi)
		count("largest", c.Run == 500 && c.Gatherings == 5 && len(c.Reams) == 4 && len(c.Stocks) == 4 && len(c.Seen) == 8)
		count("asked first", a.zero == api.OK && a.gathering == 0)
		count("asked later", a.gathering > 0)
		count("asked in vain", a.zero == api.OK && a.left == len(a.orders) && len(a.orders) > 1)
		count("asked well", a.left < len(a.orders))
		for g := range c.Gatherings {
			count("stocks not known", a.zero == api.OK && len(a.may[g]) > len(a.sure[g]) && len(a.sure[g]) > 0)
			count("no stock is sure", a.zero == api.OK && len(a.sure[g]) == 0)
		}
		for _, list := range a.before {
			count("before", slices.Contains(list, api.PpBefore))
			count("after", slices.Contains(list, api.PpAfter))
		}
	}
	for _, kind := range []string{
		"nothing is seen", "something is wrong", "much is wrong", "too small", "one order", "some orders", "all orders",
		"sheets known", "sheets not known", "pile used up", "reams not known", "reams not all used", "year not known", "largest",
		"asked first", "asked later", "asked in vain", "asked well", "stocks not known", "no stock is sure", "before", "after",
	} {
		if kinds[kind] < 10 {
			t.Errorf("%s: %d cases", kind, kinds[kind])
		}
	}
	t.Log(kinds)
}

// P6.2: an order is told if it agrees with some pile, though not with each, and just once if it agrees with several.
func TestOrdersOfSomePiles(t *testing.T) {
	reams := []api.PpReam{ream(0, 1, 3), ream(1, 1, 3), ream(2, 9, 9)}
	for i, c := range []struct {
		list []api.PpSeen
		want [][]int
	}{
		{[]api.PpSeen{seen(0, 0), seen(1, 1)}, [][]int{{0, 1, 2}, {0, 2, 1}, {2, 0, 1}}},            // the last one if the first reams have 3 and at least 2 sheets
		{[]api.PpSeen{seen(0, 0), seen(0, 1)}, [][]int{{0, 1, 2}, {0, 2, 1}, {1, 0, 2}, {2, 0, 1}}}, // if the first ream has 1 sheet, or 3
		{[]api.PpSeen{seen(0, 0), seen(0, 2)}, nil},
		{[]api.PpSeen{seen(1, 0), seen(0, 0)}, [][]int{{0, 1, 2}, {1, 0, 2}}},
		{[]api.PpSeen{seen(2, 0), seen(1, 0), seen(0, 2)}, [][]int{{1, 2, 0}, {2, 1, 0}}},
		{[]api.PpSeen{seen(2, 0), seen(1, 0), seen(0, 0)}, nil},
		{[]api.PpSeen{seen(2, 0), seen(2, 0), seen(2, 1), seen(2, 2)}, nil},
	} {
		orders, e := paper.Orders(caseOf(2, 3, reams, c.list...))
		if !slices.EqualFunc(orders, c.want, slices.Equal) || (e == api.OK) != (len(c.want) > 0) {
			t.Errorf("%d: Orders = %v, %d", i, orders, e)
		}
	}
}

// P6.3: a gathering has a stock that lies in its run, up to its first and its last sheet.
func TestStocksAtEnds(t *testing.T) {
	for i, c := range []struct {
		first     int // how many sheets the first ream has
		sure, may []int
	}{
		{4, []int{0, 1}, []int{0, 1}}, // places: 0 0 0 0 1
		{5, []int{0}, []int{0}},
		{1, []int{0, 1}, []int{0, 1}},
	} {
		a := tell(t, caseOf(5, 1, []api.PpReam{ream(0, c.first, c.first), ream(1, 9, 9)}))
		if !slices.Equal(a.sure[0], c.sure) || !slices.Equal(a.may[0], c.may) {
			t.Errorf("%d: Stocks = %v, %v", i, a.sure, a.may)
		}
	}
	a := tell(t, caseOf(5, 2, []api.PpReam{ream(0, 4, 6), ream(1, 9, 9)}, seen(1, 1)))
	if !slices.EqualFunc(a.sure, [][]int{nil, {1}}, slices.Equal) || !slices.EqualFunc(a.may, [][]int{{0, 1}, {0, 1}}, slices.Equal) {
		t.Errorf("Stocks = %v, %v", a.sure, a.may)
	}
}

// P6.4: what is left of the pile also has the reams that are not begun, and a ream of which no sheet was used is not counted; Left is of the truths that agree alone.
func TestLeftEnds(t *testing.T) {
	for i, c := range []struct {
		c             api.PpCase
		sheets, reams api.Span
	}{
		{caseOf(5, 2, []api.PpReam{ream(0, 10, 12), ream(1, 7, 7), ream(0, 1, 2)}), span(8, 11), span(1, 1)},
		{caseOf(5, 2, []api.PpReam{ream(0, 9, 11), ream(1, 7, 7)}), span(6, 8), span(1, 2)},
		{caseOf(5, 2, []api.PpReam{ream(0, 9, 11), ream(1, 7, 7)}, seen(1, 1)), span(6, 6), span(2, 2)},
		{caseOf(5, 2, []api.PpReam{ream(0, 7, 9), ream(0, 1, 1)}), span(0, 0), span(2, 2)},
		{caseOf(5, 2, []api.PpReam{ream(0, 1, 1), ream(1, 1, 1), ream(1, 1, 1), ream(2, 8, 8)}), span(1, 1), span(4, 4)},
	} {
		if a := tell(t, c.c); a.sheets != c.sheets || a.reams != c.reams {
			t.Errorf("%d: Left = %v, %v", i, a.sheets, a.reams)
		}
	}
}

// P6.4: the year of a stock of which no sheet was used does not matter; the least and the greatest year can be those of different stocks.
func TestYearEnds(t *testing.T) {
	stocks := func(spans ...int) []api.PpStock {
		var list []api.PpStock
		for i := 0; i+1 < len(spans); i += 2 {
			list = append(list, stock(string(rune('a'+i)), spans[i], spans[i+1]))
		}
		return list
	}
	reams := []api.PpReam{ream(0, 9, 11), ream(1, 7, 7), ream(2, 7, 7)}
	for i, c := range []struct {
		stocks []api.PpStock
		seen   []api.PpSeen
		want   api.Span
	}{
		{stocks(1500, 1510, 1600, 1601, 1700, 1700), nil, span(1500, 1601)},
		{stocks(1500, 1510, 1600, 1601, 1700, 1700), []api.PpSeen{seen(0, 1)}, span(1600, 1601)},
		{stocks(1500, 1510, 1490, 1505, 1700, 1700), []api.PpSeen{seen(0, 1)}, span(1500, 1510)},
		{stocks(1500, 1510, 1490, 1515, 1700, 1700), nil, span(1500, 1515)},
		{stocks(1510, 1510, 1490, 1495, 1450, 1850), nil, span(1510, 1510)},
		{stocks(1450, 1450, 1450, 1850, 1700, 1700), nil, span(1450, 1850)},
	} {
		p := caseOf(5, 2, reams, c.seen...)
		p.Stocks = c.stocks
		if years, e := paper.Year(p); years != c.want || e != api.OK {
			t.Errorf("%d: Year = %v, %d", i, years, e)
		}
	}
}

// P6.5: of as few things the first ones are named, and each of several that say the same counts.
func TestWrongFirst(t *testing.T) {
	p, q := seen(0, 0), seen(1, 1) // together they are true
	x, y := seen(0, 1), seen(1, 0) // and so are these
	for i, c := range []struct {
		list, want []int
	}{
		{[]int{0, 1}, nil}, {[]int{2, 3}, nil}, {[]int{0, 2}, []int{0}}, {[]int{2, 0}, []int{0}}, {[]int{0, 2, 3}, []int{0}}, {[]int{2, 0, 1}, []int{0}},
		{[]int{2, 0, 0}, []int{0}}, {[]int{0, 2, 0}, []int{1}}, {[]int{0, 2, 1, 3}, []int{0, 2}}, {[]int{0, 0, 2, 2}, []int{0, 1}}, {[]int{2, 0, 0, 2}, []int{0, 3}},
	} {
		var list []api.PpSeen
		for _, n := range c.list {
			list = append(list, []api.PpSeen{p, q, x, y}[n])
		}
		if wrong, e := paper.Wrong(caseOf(5, 2, []api.PpReam{ream(0, 5, 5), ream(1, 5, 5)}, list...)); !slices.Equal(wrong, c.want) || e != api.OK {
			t.Errorf("%d: Wrong = %v, %d", i, wrong, e)
		}
	}
}

// P6.6: of as good gatherings the first one is asked; one whose place is known tells nothing.
func TestAskFirst(t *testing.T) {
	parts := []api.PpReam{ream(0, 5, 5), ream(1, 5, 5), ream(2, 5, 5)}
	for i, c := range []struct {
		c                 api.PpCase
		gathering, orders int
	}{
		{caseOf(5, 3, parts), 0, 2},
		{caseOf(5, 3, parts, seen(0, 1)), 1, 1},
		{caseOf(5, 3, parts, seen(1, 1)), 0, 1},
		{caseOf(5, 3, parts, seen(1, 1), seen(0, 2)), 0, 1},
		{caseOf(15, 1, parts), 0, 1},
		{caseOf(5, 3, []api.PpReam{ream(1, 15, 15)}), 0, 6},
	} {
		if a := tell(t, c.c); a.gathering != c.gathering || a.left != c.orders {
			t.Errorf("%d: Ask = %d, %d", i, a.gathering, a.left)
		}
	}
}
