package owner_test

import (
	"slices"
	"testing"

	"duodecimo/api"
	"duodecimo/owner"
)

// P8.2 to P8.5: all that is told of each case is so by trying all spells of all owners in all orders.
func TestTold(t *testing.T) {
	t.Parallel()
	models := inAll(len(cases()), func(i int) told { return modelled(cases()[i]) })
	for i, c := range cases() {
		if x, y := answers()[i], models[i]; differ(x, y) != "" {
			t.Errorf("%d: %v: %s: %v, not %v", i, c, differ(x, y), x, y)
		}
	}
}

// P8.2 to P8.5: all that is told of small cases is so by the definition of a chain, going through all years of owners and marks.
func TestLiterally(t *testing.T) {
	t.Parallel()
	literals := inAll(len(small()), func(i int) told { return literally(small()[i]) })
	chains := 0
	for i, c := range small() {
		if x, y := tell(c), literals[i]; differ(x, y) != "" {
			t.Errorf("%d: %v: %s: %v, not %v", i, c, differ(x, y), x, y)
		}
		if literals[i].zero == api.OK && len(c.Marks) > 1 && len(c.Owners) > 1 {
			chains++
		}
	}
	if chains < 50 {
		t.Errorf("just %d cases have some marks and a chain", chains)
	}
}

// Among the cases are enough of each kind: in which no chain is there, or not even without marks, with unknown owners and without, with one order and with many, and the largest ones.
func TestCases(t *testing.T) {
	kinds := map[string]int{}
	count := func(kind string, isSo bool) {
		if isSo {
			kinds[kind]++
		}
	}
	all := slices.Concat(cases(), largest())
	for i, x := range slices.Concat(answers(), largestAnswers()) {
		c := all[i]
		orders := 0
		for _, n := range x.why {
			if n != impossible {
				orders++
			}
		}
		count("no chain", x.zero != api.OK)
		count("no chain without marks", x.down != api.OK)
		count("no chain, the most owners", x.zero != api.OK && len(c.Owners) == api.MaxOwOwners)
		count("one order", orders == 1)
		count("some orders", orders > 1 && orders < 100)
		count("many orders", orders >= 100)
		count("nobody is unknown", x.zero == api.OK && x.unknown == 0)
		count("one is unknown", x.unknown == 1)
		count("several are unknown", x.unknown > 1)
		count("nobody is known", x.zero == api.OK && len(x.holds) == 0)
		count("the most owners in a chain", len(x.holds) == api.MaxOwOwners)
		count("more in the chain than must be", len(x.holds) > 0 && orders > 1 && slices.Index(x.why, x.unknown) > slices.IndexFunc(x.why, func(n int) bool { return n != impossible }))
		count("one forged", len(x.forged) == 1)
		count("several forged", len(x.forged) > 1)
		count("not the first mark is forged", len(x.forged) == 1 && x.forged[0] > 0)
		count("largest", c.Now-c.Printed == api.MaxYear-api.MinYear && len(c.Owners) == api.MaxOwOwners && len(c.Marks) == api.MaxOwMarks && len(c.Sales) == api.MaxOwSales)
		count("sold from one to the other", slices.ContainsFunc(c.Sales, func(s api.OwSale) bool { return s.From != none && s.To != none }))
		count("sold to an unknown one", slices.ContainsFunc(c.Sales, func(s api.OwSale) bool { return s.To == none }))
		count("sold by an unknown one", slices.ContainsFunc(c.Sales, func(s api.OwSale) bool { return s.From == none }))
		count("told twice", len(slices.Compact(slices.Clone(c.Sales))) < len(c.Sales))
		count("no year behind that of printing", c.Printed == c.Now)
		for k, m := range c.Marks {
			year := x.years[k]
			count("a year is told better", x.zero == api.OK && year != m.Year)
			count("a year is told just", x.zero == api.OK && year.Lo == year.Hi && year != m.Year)
			count("upon another owner's", m.Upon != none && c.Marks[m.Upon].Owner != m.Owner)
			count("upon the same owner's", m.Upon != none && c.Marks[m.Upon].Owner == m.Owner)
		}
		for _, list := range x.before {
			count("before", slices.Contains(list, api.OwBefore))
			count("after", slices.Contains(list, api.OwAfter))
		}
		for _, list := range x.owned {
			count("nobody in a year", x.zero == api.OK && len(list) == 0)
			count("some in a year", len(list) > 0 && len(list) < len(c.Owners))
		}
	}
	for _, kind := range []string{
		"no chain", "no chain without marks", "no chain, the most owners", "one order", "some orders", "many orders", "nobody is unknown", "one is unknown",
		"several are unknown", "nobody is known", "the most owners in a chain", "more in the chain than must be", "one forged", "several forged",
		"not the first mark is forged", "largest", "sold from one to the other", "sold to an unknown one", "sold by an unknown one", "told twice",
		"no year behind that of printing", "a year is told better", "a year is told just", "upon another owner's", "upon the same owner's",
		"before", "after", "nobody in a year", "some in a year",
	} {
		if kinds[kind] < 10 {
			t.Errorf("%s: %d cases", kind, kinds[kind])
		}
	}
	t.Log(kinds)
}

// The chapter's examples, one by one.
func TestExamples(t *testing.T) {
	c := example()
	holds, unknown, e := owner.Chain(c)
	if !slices.Equal(holds, []api.OwHold{hold(ann, 1600, 1610), hold(ben, 1610, 1650), hold(dot, 1650, 1665), hold(cid, 1665, 1700)}) || unknown != 0 || e != api.OK {
		t.Errorf("Chain = %v, %d, %d", holds, unknown, e)
	}
	for _, x := range []struct {
		order   []int
		unknown int
		e       api.Errno
	}{{[]int{0, 1, 2}, 1, api.OK}, {[]int{0, 1, 2, 3}, 2, api.OK}, {[]int{1, 0, 2}, 0, api.ErrDown}, {[]int{0, 1}, 0, api.ErrDown}, {[]int{0, 1, 3, 2}, 0, api.OK}} {
		if n, e := owner.Why(c, x.order); n != x.unknown || e != x.e {
			t.Errorf("Why of %v = %d, %d", x.order, n, e)
		}
	}
	for _, x := range []struct{ a, b, want int }{{ann, ben, api.OwBefore}, {cid, dot, api.OwEither}} {
		if n, e := owner.Before(c, x.a, x.b); n != x.want || e != api.OK {
			t.Errorf("Before of %d, %d = %d, %d", x.a, x.b, n, e)
		}
	}
	for _, x := range []struct {
		mark int
		want api.Span
	}{{0, span(1610, 1620)}, {2, span(1680, 1685)}} {
		if s, e := owner.Year(c, x.mark); s != x.want || e != api.OK {
			t.Errorf("Year of %d = %v, %d", x.mark, s, e)
		}
	}
	list, e := owner.Owned(c, 1600)
	expectList(t, "Owned in 1600", list, e, ann)
	list, e = owner.Owned(c, 1655)
	expectList(t, "Owned in 1655", list, e, ben, dot)
	list, e = owner.Both(c, second(), 1655)
	expectList(t, "Both in 1655", list, e, dot)
	list, e = owner.Forged(c)
	expectList(t, "Forged", list, e)
	list, e = owner.Forged(marked(c, mark(dot, 1610, 1615, none)))
	expectList(t, "Forged", list, e, 3)
}

// The chapter's examples: just three orders have a chain.
func TestExampleOrders(t *testing.T) {
	var orders [][]int
	for _, order := range ordersOf(example()) {
		if _, e := owner.Why(example(), order); e == api.OK {
			orders = append(orders, order)
		}
	}
	if !slices.EqualFunc(orders, [][]int{{0, 1, 2}, {0, 1, 2, 3}, {0, 1, 3, 2}}, slices.Equal) {
		t.Errorf("the orders that have a chain are %v", orders)
	}
}

// P8.2: from the earliest year of any chain, up to the latest one with these; a single year is enough; of several orders with as few unknown owners the first one.
func TestChain(t *testing.T) {
	free, one := lived(1600, 1610, 2), lived(1600, 1600, 3)
	late := lived(1600, 1610, 2)
	late.Owners[0] = person("a", 1603, 1605)
	late.Owners[1] = person("b", 1605, 1608)
	apart := cloned(late)
	apart.Owners[1].Born = 1606
	for i, x := range []struct {
		c       api.OwCase
		holds   []api.OwHold
		unknown int
		e       api.Errno
	}{
		{lived(1600, 1610, 0), nil, 1, api.OK},
		{lived(1600, 1600, 0), nil, 1, api.OK},
		{one, []api.OwHold{hold(0, 1600, 1600)}, 0, api.OK},
		{free, []api.OwHold{hold(0, 1600, 1610)}, 0, api.OK},
		{marked(free, mark(1, 1605, 1606, none)), []api.OwHold{hold(1, 1600, 1610)}, 0, api.OK},
		{marked(free, mark(1, 1605, 1606, none), mark(0, 1608, 1610, none)), []api.OwHold{hold(1, 1600, 1605), hold(0, 1605, 1610)}, 0, api.OK},
		{marked(free, mark(1, 1605, 1606, none), mark(0, 1607, 1608, none), mark(1, 1609, 1610, none)), nil, 0, api.ErrZero},
		{marked(free, mark(1, 1605, 1606, none), mark(0, 1608, 1610, 0)), []api.OwHold{hold(1, 1600, 1605), hold(0, 1605, 1610)}, 0, api.OK},
		{marked(free, mark(1, 1605, 1608, none), mark(0, 1605, 1605, 0)), []api.OwHold{hold(1, 1600, 1605), hold(0, 1605, 1610)}, 0, api.OK},
		{marked(free, mark(1, 1606, 1608, none), mark(0, 1605, 1605, 0)), nil, 0, api.ErrZero},
		{marked(one, mark(1, 1600, 1600, none), mark(0, 1600, 1600, 0)), []api.OwHold{hold(1, 1600, 1600), hold(0, 1600, 1600)}, 0, api.OK},
		{late, nil, 1, api.OK},
		{marked(late, mark(0, 1603, 1610, none)), []api.OwHold{hold(0, 1603, 1605)}, 2, api.OK},
		{marked(late, mark(0, 1603, 1610, none), mark(1, 1606, 1606, none)), []api.OwHold{hold(0, 1603, 1605), hold(1, 1605, 1608)}, 2, api.OK},
		{marked(apart, mark(0, 1603, 1610, none), mark(1, 1606, 1606, none)), []api.OwHold{hold(0, 1603, 1605), hold(1, 1606, 1608)}, 3, api.OK},
		{sold(free, sale(1604, 1, 0)), []api.OwHold{hold(1, 1600, 1604), hold(0, 1604, 1610)}, 0, api.OK},
		{sold(free, sale(1604, none, 0)), []api.OwHold{hold(1, 1600, 1604), hold(0, 1604, 1610)}, 0, api.OK},
		{sold(free, sale(1604, 1, none)), []api.OwHold{hold(1, 1600, 1604), hold(0, 1604, 1610)}, 0, api.OK},
		{sold(free, sale(1600, none, 1)), []api.OwHold{hold(1, 1600, 1610)}, 0, api.OK},
		{sold(free, sale(1600, 1, 0), sale(1600, 1, 0)), []api.OwHold{hold(1, 1600, 1600), hold(0, 1600, 1610)}, 0, api.OK},
		{sold(free, sale(1604, 1, 0), sale(1605, 1, 0)), nil, 0, api.ErrZero},
		{sold(free, sale(1604, none, 1), sale(1604, 1, none)), []api.OwHold{hold(0, 1600, 1604), hold(1, 1604, 1604)}, 1, api.OK},
		{sold(free, sale(1604, none, 1), sale(1603, 1, none)), nil, 0, api.ErrZero},
	} {
		if holds, unknown, e := owner.Chain(x.c); !slices.Equal(holds, x.holds) || unknown != x.unknown || e != x.e {
			t.Errorf("%d: Chain = %v, %d, %d", i, holds, unknown, e)
		}
	}
}

// P8.2: what an order needs of unknown owners, and what no chain has.
func TestWhy(t *testing.T) {
	c := lived(1600, 1610, 4)
	c.Owners[1] = person("b", 1602, 1604)
	c.Owners[2] = person("c", 1604, 1606)
	c.Owners[3] = person("d", 1610, 1640)
	bought := sold(c, sale(1604, 1, 2))
	for i, x := range []struct {
		c     api.OwCase
		order []int
		want  int
		e     api.Errno
	}{
		{c, nil, 1, api.OK}, {c, []int{0}, 0, api.OK}, {c, []int{1}, 2, api.OK}, {c, []int{0, 1}, 1, api.OK}, {c, []int{0, 1, 0}, 0, api.ErrTwice}, {c, []int{0, 1, 2}, 1, api.OK},
		{c, []int{0, 2, 1}, 1, api.OK}, {c, []int{0, 2, 1, 3}, 1, api.OK}, {c, []int{3}, 1, api.OK}, {c, []int{3, 0}, 1, api.OK}, {c, []int{0, 3}, 0, api.OK}, {c, []int{1, 0, 2}, 2, api.OK}, {c, []int{1, 2, 0}, 1, api.OK}, {c, []int{3, 1}, 0, api.ErrDown},
		{bought, nil, 0, api.ErrDown}, {bought, []int{1}, 0, api.ErrDown}, {bought, []int{2}, 0, api.ErrDown}, {bought, []int{1, 2}, 2, api.OK}, {bought, []int{2, 1}, 0, api.ErrDown}, {bought, []int{1, 0, 2}, 0, api.ErrDown}, {bought, []int{0, 1, 2}, 1, api.OK}, {bought, []int{0, 1, 2, 3}, 1, api.OK},
		{marked(c, mark(0, 1600, 1610, none)), nil, 0, api.ErrDown}, {marked(c, mark(0, 1600, 1610, none)), []int{1, 2}, 0, api.ErrDown},
		{marked(c, mark(1, 1602, 1604, none), mark(0, 1600, 1610, 0)), []int{0, 1}, 0, api.ErrDown}, {marked(c, mark(1, 1602, 1604, none), mark(0, 1600, 1610, 0)), []int{1, 0}, 1, api.OK},
		{marked(c, mark(0, 1605, 1605, none)), []int{0, 1}, 0, api.ErrDown}, {marked(c, mark(0, 1604, 1605, none)), []int{0, 1}, 1, api.OK},
		{marked(c, mark(1, 1604, 1604, none), mark(2, 1604, 1604, none), mark(1, 1604, 1604, 0)), []int{1, 2}, 2, api.OK},
	} {
		if n, e := owner.Why(x.c, x.order); n != x.want || e != x.e {
			t.Errorf("%d: Why of %v = %d, %d", i, x.order, n, e)
		}
	}
}

// P8.3: just chains that have both are asked; if none has, neither comes before the other one.
func TestBeforeBoth(t *testing.T) {
	c := lived(1600, 1610, 3)
	c.Owners[1].Died, c.Owners[2].Born = 1603, 1604
	never := cloned(c)
	never.Owners[0].Died = 1599
	for i, x := range []struct {
		c          api.OwCase
		a, b, want int
	}{
		{c, 0, 1, api.OwEither}, {c, 1, 0, api.OwEither}, {c, 1, 2, api.OwBefore}, {c, 2, 1, api.OwAfter}, {c, 0, 2, api.OwEither},
		{never, 0, 1, api.OwEither}, {never, 1, 2, api.OwBefore}, {never, 2, 0, api.OwEither},
		{sold(c, sale(1603, 1, none)), 0, 1, api.OwEither}, {sold(c, sale(1600, 0, none)), 0, 1, api.OwEither}, {sold(c, sale(1600, 0, none)), 0, 2, api.OwBefore}, {sold(c, sale(1603, 0, 1)), 0, 1, api.OwBefore}, {sold(c, sale(1604, 2, 0)), 0, 1, api.OwAfter},
	} {
		if n, e := owner.Before(x.c, x.a, x.b); n != x.want || e != api.OK {
			t.Errorf("%d: Before of %d, %d = %d, %d", i, x.a, x.b, n, e)
		}
	}
}

// P8.4: the ends of the years of a mark, over all orders.
func TestYear(t *testing.T) {
	c := lived(1600, 1650, 2)
	for i, x := range []struct {
		c    api.OwCase
		mark int
		want api.Span
	}{
		{marked(c, mark(0, 1600, 1640, none)), 0, span(1600, 1640)},
		{marked(c, mark(0, 1600, 1640, none), mark(0, 1605, 1620, 0)), 0, span(1600, 1620)},
		{marked(c, mark(0, 1610, 1640, none), mark(0, 1605, 1620, 0)), 1, span(1610, 1620)},
		{marked(c, mark(0, 1610, 1640, none), mark(1, 1605, 1620, 0)), 0, span(1610, 1620)},
		{marked(c, mark(0, 1610, 1640, none), mark(1, 1605, 1620, 0), mark(1, 1600, 1615, 1)), 0, span(1610, 1615)},
		{marked(c, mark(0, 1610, 1640, none), mark(1, 1605, 1620, 0), mark(0, 1620, 1620, none)), 0, span(1610, 1620)},
		{marked(c, mark(0, 1610, 1640, none), mark(1, 1605, 1620, none)), 0, span(1610, 1640)}, // either before or after
		{marked(c, mark(0, 1610, 1640, none), mark(1, 1620, 1620, none), mark(0, 1640, 1650, none)), 0, span(1620, 1640)},
		{sold(marked(c, mark(0, 1610, 1640, none)), sale(1630, 0, none)), 0, span(1610, 1630)},
		{sold(marked(c, mark(0, 1610, 1640, none)), sale(1630, 1, 0)), 0, span(1630, 1640)},
		{sold(marked(c, mark(0, 1610, 1640, none)), sale(1630, none, 0), sale(1630, 0, 1)), 0, span(1630, 1630)},
	} {
		if s, e := owner.Year(x.c, x.mark); s != x.want || e != api.OK {
			t.Errorf("%d: Year = %v, %d", i, s, e)
		}
	}
}

// P8.4: in a year in which the copy goes from one to another both have it; nobody may be able to have it.
func TestOwned(t *testing.T) {
	c := sold(lived(1600, 1610, 3), sale(1604, 0, 1))
	c.Owners[2].Died = 1600
	for _, x := range []struct {
		year int
		want []int
	}{{1600, []int{0, 2}}, {1601, []int{0}}, {1603, []int{0}}, {1604, []int{0, 1}}, {1605, []int{1}}, {1610, []int{1}}} {
		list, e := owner.Owned(c, x.year)
		expectList(t, "Owned", list, e, x.want...)
	}
	list, e := owner.Owned(lived(1600, 1610, 0), 1605)
	expectList(t, "Owned", list, e)
	list, e = owner.Owned(sold(lived(1600, 1610, 1), sale(1605, none, 0)), 1604)
	expectList(t, "Owned", list, e)
}

// P8.4: Both are those of Owned who have a name of those whom Owned of the other case returns, whatever their indices; the years are those of both.
func TestBoth(t *testing.T) {
	t.Parallel()
	r := seed(84)
	two, fewer := 0, 0
	for i, c := range cases()[:200] {
		d := cases()[r.Intn(len(cases()))]
		if i%2 == 0 {
			d = disturbed(r, c, 2)
			r.Shuffle(len(d.Owners), func(i, k int) { d.Owners[i].Name, d.Owners[k].Name = d.Owners[k].Name, d.Owners[i].Name })
		}
		for _, year := range append(asked(c), asked(d)...) {
			mine, e := owner.Owned(c, year)
			others, f := owner.Owned(d, year)
			var want []int
			for _, a := range mine {
				if slices.ContainsFunc(others, func(b int) bool { return c.Owners[a].Name == d.Owners[b].Name }) {
					want = append(want, a)
				}
			}
			if e == api.OK || f == api.ErrRange {
				e = f
			}
			if e != api.OK {
				want = nil
			}
			list, got := owner.Both(c, d, year)
			if !slices.Equal(list, want) || got != e {
				t.Errorf("Both of %v and %v, %d = %v, %d, not %v, %d", c, d, year, list, got, want, e)
			}
			if len(want) > 1 {
				two++
			}
			if len(want) < len(mine) {
				fewer++
			}
		}
	}
	if two < 100 || fewer < 100 {
		t.Errorf("%d times two have both, %d times not all", two, fewer)
	}
}

// P8.5: the first of the fewest marks; what lies upon one of them lies upon none then, and not upon that under it.
func TestForged(t *testing.T) {
	c := lived(1600, 1610, 3)
	old := cloned(c)
	old.Owners[0].Died = 1590
	for i, x := range []struct {
		c    api.OwCase
		want []int
	}{
		{c, nil},
		{lived(1600, 1600, 0), nil},
		{marked(c, mark(0, 1601, 1601, none), mark(1, 1602, 1602, none), mark(0, 1603, 1603, none)), []int{0}},
		{marked(c, mark(0, 1601, 1601, none), mark(1, 1602, 1602, none), mark(0, 1603, 1603, none), mark(0, 1600, 1600, none)), []int{1}},
		{marked(c, mark(0, 1601, 1601, none), mark(1, 1602, 1602, none), mark(0, 1603, 1603, 1)), []int{0}},
		{marked(c, mark(0, 1605, 1605, none), mark(1, 1606, 1606, 0), mark(0, 1600, 1604, 1)), []int{1}},
		{marked(c, mark(0, 1606, 1606, none), mark(0, 1605, 1605, 0)), []int{0}},
		{marked(c, mark(0, 1606, 1606, none), mark(0, 1605, 1607, 0), mark(0, 1604, 1606, 1), mark(0, 1605, 1605, 2)), []int{0}},
		{marked(old, mark(0, 1600, 1610, none), mark(1, 1600, 1610, 0), mark(0, 1600, 1610, 1)), []int{0, 2}},
		{marked(old, slices.Repeat([]api.OwMark{mark(0, 1600, 1610, none)}, api.MaxOwMarks)...), []int{0, 1, 2, 3, 4, 5, 6, 7}},
		{sold(marked(c, mark(2, 1600, 1600, none), mark(1, 1600, 1603, none), mark(2, 1604, 1604, none)), sale(1604, none, 1), sale(1606, 1, 2)), []int{0, 1, 2}},
	} {
		list, e := owner.Forged(x.c)
		if !slices.Equal(list, x.want) || e != api.OK {
			t.Errorf("%d: Forged = %v, %d", i, list, e)
		}
	}
}
