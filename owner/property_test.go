package owner_test

import (
	"math/rand"
	"slices"
	"testing"

	"duodecimo/api"
	"duodecimo/owner"
)

// asks goes through all cases, the largest ones too, and what is told of each.
func asks(visit func(c api.OwCase, x told)) {
	for i, c := range cases() {
		visit(c, answers()[i])
	}
	for i, c := range largest() {
		visit(c, largestAnswers()[i])
	}
}

// whyOf are how few unknown owners each order of a case has.
func whyOf(t *testing.T, c api.OwCase) []int {
	t.Helper()
	var list []int
	for _, order := range ordersOf(c) {
		n, e := owner.Why(c, order)
		if e == api.ErrDown {
			n = impossible
		} else if e != api.OK {
			t.Fatalf("Why of %v, %v: %d", c, order, e)
		}
		list = append(list, n)
	}
	return list
}

// hasChain reports whether there is a chain, by Chain.
func hasChain(c api.OwCase) bool {
	_, _, e := owner.Chain(c)
	return e == api.OK
}

// P8.6: in what Chain returns nobody has the copy before it was printed, before birth, after death, or before the one before had it; and each mark can have been made meanwhile.
func TestOneAtATime(t *testing.T) {
	t.Parallel()
	held, made := 0, 0
	asks(func(c api.OwCase, x told) {
		if x.zero != api.OK {
			return
		}
		h := history{c, x.holds, make([]int, len(c.Marks))}
		before := c.Printed
		for i, y := range x.holds {
			o := c.Owners[y.Owner]
			if y.From < before || y.From < o.Born || y.To < y.From || y.To > o.Died || y.To > c.Now || h.at(y.Owner) != i {
				t.Errorf("%v: Chain = %v", c, x.holds)
			}
			before = y.To
			held++
		}
		for i, m := range c.Marks {
			if h.at(m.Owner) < 0 {
				t.Errorf("%v: Chain = %v, without the owner of a mark", c, x.holds)
				return
			}
			h.made[i] = max(m.Year.Lo, x.holds[h.at(m.Owner)].From)
			if m.Upon != none {
				h.made[i] = max(h.made[i], h.made[m.Upon])
			}
			made++
		}
		if !h.isChain() {
			t.Errorf("%v: Chain = %v, and marks of %v", c, x.holds, h.made)
		}
	})
	if held < 500 || made < 500 {
		t.Errorf("just %d owners, %d marks", held, made)
	}
}

// P8.7: no order has a chain with fewer unknown owners, and one before that of Chain has more; there is an order with a chain if Chain returns one.
func TestNoFewer(t *testing.T) {
	fewer := 0
	asks(func(c api.OwCase, x told) {
		order := history{c, x.holds, nil}.order()
		before := x.zero == api.OK
		for i, n := range x.why {
			if slices.Equal(ordersOf(c)[i], order) && x.zero == api.OK {
				before = false
				if n != x.unknown || n != unknownOf(c, x.holds) {
					t.Errorf("%v: Chain = %v, %d unknown, but Why = %d", c, x.holds, x.unknown, n)
				}
			}
			if n != impossible && (x.zero != api.OK || n < x.unknown || before && n == x.unknown) {
				t.Errorf("%v: Chain = %v, %d, %d, but %v has %d", c, x.holds, x.unknown, x.zero, ordersOf(c)[i], n)
			}
			if n > x.unknown {
				fewer++
			}
		}
		if before {
			t.Errorf("%v: Chain = %v, which no order has", c, x.holds)
		}
	})
	if fewer < 500 {
		t.Errorf("just %d orders have more unknown owners", fewer)
	}
}

// P8.8: what was is a chain, with no more unknown owners than there were; each year, and each owner in it, is told, and no mark is forged.
func TestTrueOwners(t *testing.T) {
	t.Parallel()
	r := seed(888)
	fewer := 0
	for i := range 400 {
		s := someSize(r)
		if i%4 == 0 {
			s = most()
		}
		h := someHistory(r, s)
		if !h.isChain() {
			t.Fatalf("%v is no chain", h)
		}
		was := unknownOf(h.OwCase, h.holds)
		n, e := owner.Why(h.OwCase, h.order())
		_, unknown, f := owner.Chain(h.OwCase)
		if e != api.OK || n > was || f != api.OK || unknown > n {
			t.Errorf("%v: Why = %d, %d; Chain: %d, %d", h, n, e, unknown, f)
		}
		if unknown < was {
			fewer++
		}
		for k, year := range h.made {
			if y, e := owner.Year(h.OwCase, k); e != api.OK || year < y.Lo || year > y.Hi {
				t.Errorf("%v: Year of %d = %v, %d", h, k, y, e)
			}
		}
		for _, x := range h.holds {
			for _, year := range []int{x.From, someYear(r, span(x.From, x.To)), x.To} {
				if list, e := owner.Owned(h.OwCase, year); e != api.OK || !slices.Contains(list, x.Owner) {
					t.Errorf("%v: Owned in %d = %v, %d", h, year, list, e)
				}
			}
		}
		if list, e := owner.Forged(h.OwCase); len(list) > 0 || e != api.OK {
			t.Errorf("%v: Forged = %v, %d", h, list, e)
		}
	}
	if fewer < 50 {
		t.Errorf("just %d times fewer are unknown", fewer)
	}
}

// P8.9: with either end of Year there is a chain, with a year of the mark before or behind there is none.
func TestReached(t *testing.T) {
	t.Parallel()
	ends, outside := 0, 0
	asks(func(c api.OwCase, x told) {
		for i, m := range c.Marks {
			y := x.years[i]
			if x.zero != api.OK {
				continue
			}
			if y.Lo < m.Year.Lo || y.Hi > m.Year.Hi || y.Lo > y.Hi {
				t.Errorf("%v: Year of %d = %v", c, i, y)
			}
			for _, end := range []int{y.Lo, y.Hi} {
				if !hasChain(known(c, i, end)) {
					t.Errorf("%v: Year of %d = %v, but there is no chain with %d", c, i, y, end)
				}
				ends++
			}
			for _, year := range []int{m.Year.Lo, y.Lo - 1, y.Hi + 1, m.Year.Hi} {
				if within := year >= m.Year.Lo && year <= m.Year.Hi; !within || year >= y.Lo && year <= y.Hi {
					continue
				}
				if hasChain(known(c, i, year)) {
					t.Errorf("%v: Year of %d = %v, but there is a chain with %d", c, i, y, year)
				}
				outside++
			}
		}
	})
	if ends < 1000 || outside < 200 {
		t.Errorf("%d ends, %d years outside", ends, outside)
	}
}

// P8.10: without the marks of Forged there is a chain, without any fewer there is none, and without as many before them in their order there is none, either; there is none without all marks if no marks can be named.
func TestForgedFewest(t *testing.T) {
	t.Parallel()
	tried := 0
	asks(func(c api.OwCase, x told) {
		if (x.zero == api.OK) != (x.down == api.OK && len(x.forged) == 0) {
			t.Errorf("%v: Chain: %d; Forged = %v, %d", c, x.zero, x.forged, x.down)
		}
		if x.down != api.OK {
			if hasChain(without(c, allMarks(c))) {
				t.Errorf("%v: Forged: %d", c, x.down)
			}
			return
		}
		if !hasChain(without(c, x.forged)) {
			t.Errorf("%v: Forged = %v", c, x.forged)
		}
		for _, some := range subsets()[len(c.Marks)] {
			if slices.Equal(some, x.forged) {
				break
			}
			if hasChain(without(c, some)) {
				t.Errorf("%v: Forged = %v, not %v", c, x.forged, some)
			}
			tried++
		}
	})
	if tried < 200 {
		t.Errorf("just %d lists were tried", tried)
	}
}

// allMarks are the indices of all marks.
func allMarks(c api.OwCase) []int {
	var list []int
	for i := range c.Marks {
		list = append(list, i)
	}
	return list
}

// P8.10: with any marks added to a true case no more of them need be forged than are added.
func TestForgedAdded(t *testing.T) {
	t.Parallel()
	r := seed(810)
	forged := 0
	for i := range 400 {
		s := someSize(r)
		if i%4 == 0 {
			s = most()
		}
		s.owners, s.marks = max(s.owners, 1), r.Intn(api.MaxOwMarks)
		h := someHistory(r, s)
		added := 1 + r.Intn(api.MaxOwMarks-len(h.Marks))
		c := cloned(h.OwCase)
		for range added {
			at := r.Intn(len(c.Marks) + 1)
			for k := at; k < len(c.Marks); k++ {
				if c.Marks[k].Upon >= at {
					c.Marks[k].Upon++
				}
			}
			c.Marks = slices.Insert(c.Marks, at, someMark(r, c, at))
		}
		list, e := owner.Forged(c)
		if e != api.OK || len(list) > added {
			t.Errorf("%v, and with %d marks more %v: Forged = %v, %d", h, added, c, list, e)
		}
		forged += len(list)
	}
	if forged < 200 {
		t.Errorf("just %d marks are forged", forged)
	}
}

// P8.11: Before of b and a is the opposite of that of a and b; who made a mark upon that of another one does not come before.
func TestOpposite(t *testing.T) {
	opposite := map[int]int{api.OwBefore: api.OwAfter, api.OwAfter: api.OwBefore, api.OwEither: api.OwEither}
	upon := 0
	asks(func(c api.OwCase, x told) {
		for a, list := range x.before {
			for b, n := range list {
				if is, in := opposite[n]; a != b && (!in || x.before[b][a] != is) {
					t.Errorf("%v: Before of %d, %d = %d, of %d, %d = %d", c, a, b, n, b, a, x.before[b][a])
				}
			}
		}
		for _, m := range c.Marks {
			if m.Upon == none || c.Marks[m.Upon].Owner == m.Owner || x.zero != api.OK {
				continue
			}
			if n := x.before[m.Owner][c.Marks[m.Upon].Owner]; n == api.OwBefore {
				t.Errorf("%v: Before of %d, %d = %d", c, m.Owner, c.Marks[m.Upon].Owner, n)
			}
			upon++
		}
	})
	if upon < 200 {
		t.Errorf("just %d marks lie upon those of others", upon)
	}
}

// more are a case with one more mark, and with one more sale, as far as there can be, wherever it comes in the list.
func more(r *rand.Rand, c api.OwCase) []api.OwCase {
	var list []api.OwCase
	if len(c.Marks) < api.MaxOwMarks && len(c.Owners) > 0 {
		list = append(list, marked(c, someMark(r, c, len(c.Marks))))
	}
	if len(c.Sales) < api.MaxOwSales && len(c.Owners) > 0 {
		d := cloned(c)
		d.Sales = slices.Insert(d.Sales, r.Intn(len(d.Sales)+1), someSale(r, c))
		list = append(list, d)
	}
	return list
}

// P8.12: with one more mark or sale no order is added, Year and Owned are no wider, and no fewer owners are unknown.
func TestOneMore(t *testing.T) {
	t.Parallel()
	r := seed(812)
	chains, narrower, dearer := 0, 0, 0
	asks(func(c api.OwCase, x told) {
		for _, d := range more(r, c) {
			for i, n := range whyOf(t, d) {
				if n != impossible && (x.why[i] == impossible || n < x.why[i]) {
					t.Errorf("%v, and with one more %v: Why of %v = %d, was %d", c, d, ordersOf(c)[i], n, x.why[i])
				}
			}
			_, unknown, e := owner.Chain(d)
			if e != api.OK {
				continue
			}
			chains++
			if x.zero != api.OK || unknown < x.unknown {
				t.Errorf("%v, and with one more %v: %d are unknown, were %d, %d", c, d, unknown, x.unknown, x.zero)
			}
			if unknown > x.unknown {
				dearer++
			}
			for i, was := range x.years {
				y, e := owner.Year(d, i)
				if e != api.OK || y.Lo < was.Lo || y.Hi > was.Hi {
					t.Errorf("%v, and with one more %v: Year of %d = %v, %d, was %v", c, d, i, y, e, was)
				}
			}
			for i, year := range asked(c) {
				list, e := owner.Owned(d, year)
				if e != api.OK || slices.ContainsFunc(list, func(o int) bool { return !slices.Contains(x.owned[i], o) }) {
					t.Errorf("%v, and with one more %v: Owned in %d = %v, %d, was %v", c, d, year, list, e, x.owned[i])
				}
				if len(list) < len(x.owned[i]) {
					narrower++
				}
			}
		}
	})
	if chains < 50 || narrower < 100 || dearer < 10 {
		t.Errorf("%d chains are left, %d times fewer can have owned, %d times more are unknown", chains, narrower, dearer)
	}
}

// P8.13: if an owner was born earlier, or died later, each order that has a chain still has one, with no more unknown owners.
func TestLonger(t *testing.T) {
	t.Parallel()
	r := seed(813)
	better, added := 0, 0
	asks(func(c api.OwCase, x told) {
		if len(c.Owners) == 0 {
			return
		}
		d := cloned(c)
		o := &d.Owners[r.Intn(len(d.Owners))]
		if r.Intn(2) == 0 {
			o.Born = []int{0, max(0, o.Born-1), max(0, o.Born-10)}[r.Intn(3)]
		} else {
			o.Died = []int{9999, min(9999, o.Died+1), min(9999, o.Died+10)}[r.Intn(3)]
		}
		for i, n := range whyOf(t, d) {
			was := x.why[i]
			if was != impossible && (n == impossible || n > was) {
				t.Errorf("%v, and with a longer life %v: Why of %v = %d, was %d", c, d, ordersOf(c)[i], n, was)
			}
			if n != impossible && was == impossible {
				added++
			} else if n < was {
				better++
			}
		}
	})
	if better < 100 || added < 100 {
		t.Errorf("%d orders are better, %d are added", better, added)
	}
}

// turned is a case in which time is turned round, and marks lie upon none.
func turned(c api.OwCase) api.OwCase {
	c = cloned(c)
	round := func(year int) int { return c.Printed + c.Now - year }
	for i, o := range c.Owners {
		c.Owners[i].Born, c.Owners[i].Died = max(0, round(o.Died)), max(0, round(o.Born))
	}
	for i, m := range c.Marks {
		c.Marks[i] = mark(m.Owner, round(m.Year.Hi), round(m.Year.Lo), none)
	}
	for i, s := range c.Sales {
		c.Sales[i] = sale(round(s.Year), s.To, s.From)
	}
	return c
}

// P8.14: if time is turned round, the orders that have a chain are turned round, with as many unknown owners.
func TestTurnedRound(t *testing.T) {
	t.Parallel()
	chains, gone := 0, 0
	asks(func(c api.OwCase, x told) {
		c, d := turned(turned(c)), turned(c)
		for i, n := range whyOf(t, c) {
			order := slices.Clone(ordersOf(c)[i])
			slices.Reverse(order)
			m, e := owner.Why(d, order)
			if n != impossible && (m != n || e != api.OK) || n == impossible && e != api.ErrDown {
				t.Errorf("%v, and turned round %v: Why of %v = %d, %d, not %d", c, d, order, m, e, n)
			}
			if n == impossible {
				gone++
			} else {
				chains++
			}
		}
		_, unknown, e := owner.Chain(c)
		_, other, f := owner.Chain(d)
		if unknown != other || e != f {
			t.Errorf("%v, and turned round %v: %d are unknown, %d; %d, %d", c, d, other, f, unknown, e)
		}
	})
	if chains < 1000 || gone < 1000 {
		t.Errorf("%d orders have a chain, %d have none", chains, gone)
	}
}
