package paper_test

import (
	"math/rand"
	"slices"
	"testing"

	"duodecimo/api"
	"duodecimo/paper"
)

// holds reports whether a span contains a number.
func holds(s api.Span, n int) bool { return s.Lo <= n && n <= s.Hi }

// within reports whether a span is no wider than another one, at either end.
func within(s, other api.Span) bool { return s.Lo >= other.Lo && s.Hi <= other.Hi }

// hasAll reports whether a list has all numbers of another one.
func hasAll(list, some []int) bool {
	return !slices.ContainsFunc(some, func(n int) bool { return !slices.Contains(list, n) })
}

// hasOrders reports whether all of some orders are in a list.
func hasOrders(list, some [][]int) bool {
	return !slices.ContainsFunc(some, func(o []int) bool { return !hasOrder(list, o) })
}

// hasOrder reports whether an order is in a list.
func hasOrder(list [][]int, order []int) bool {
	return slices.ContainsFunc(list, func(o []int) bool { return slices.Equal(o, order) })
}

// someTruth is something that was printed, of any size, now and then of the largest one.
func someTruth(r *rand.Rand) printed {
	s := someSize(r)
	if r.Intn(6) == 0 {
		s = most()
	}
	return somePrinted(r, s, r.Intn(4) == 0)
}

// P6.7: what is seen of any truth agrees with it: nothing is told that was not there, and all that was there can be.
func TestTruePaper(t *testing.T) {
	r := rand.New(rand.NewSource(67))
	sure := 0
	for range 500 {
		p := someTruth(r)
		a, g := tell(t, p.PpCase), p.truth()
		if a.zero != api.OK || a.down != api.OK || len(a.wrong) > 0 || !hasOrder(a.orders, p.order) {
			t.Errorf("%v: Orders = %v, %d; Wrong = %v, %d", p, a.orders, a.zero, a.wrong, a.down)
			continue
		}
		for gathering := range p.Gatherings {
			for s := range p.Stocks {
				has := g.on[gathering][s]
				if slices.Contains(a.sure[gathering], s) && !has || !slices.Contains(a.may[gathering], s) && has {
					t.Errorf("%v: Stocks = %v, %v", p, a.sure, a.may)
				}
			}
			sure += len(a.sure[gathering])
			for h := range p.Gatherings {
				first := slices.Index(p.order, gathering) < slices.Index(p.order, h)
				if n := a.before[gathering][h]; n == api.PpBefore && !first || n == api.PpAfter && first {
					t.Errorf("%v: Before = %v", p, a.before)
				}
			}
		}
		if !holds(a.sheets, g.left) || !holds(a.reams, g.many) || !holds(a.years, p.latest()) {
			t.Errorf("%v: Left = %v, %v; Year = %v", p, a.sheets, a.reams, a.years)
		}
	}
	if sure < 500 {
		t.Errorf("just %d stocks are sure", sure)
	}
}

// agrees reports whether some truth of a case agrees, by Orders.
func agrees(c api.PpCase) bool {
	_, e := paper.Orders(c)
	return e == api.OK
}

// P6.8: without the things of Wrong some truth agrees, without any fewer none does.
func TestNoFewer(t *testing.T) {
	tried := 0
	for i, c := range cases() {
		a := answers(t)[i]
		if a.down != api.OK {
			if agrees(seeing(c)) {
				t.Errorf("Wrong of %v: %d", c, a.down)
			}
			continue
		}
		if !agrees(without(c, a.wrong)) {
			t.Errorf("%v: Wrong = %v", c, a.wrong)
		}
		if (len(a.wrong) == 0) != (a.zero == api.OK) {
			t.Errorf("%v: Wrong = %v, Orders: %d", c, a.wrong, a.zero)
		}
		for _, some := range subsets(len(c.Seen)) {
			if len(some) < len(a.wrong) {
				tried++
				if agrees(without(c, some)) {
					t.Errorf("%v: Wrong = %v, but %v are enough", c, a.wrong, some)
				}
			}
		}
	}
	if tried < 500 {
		t.Errorf("just %d lists were tried", tried)
	}
}

// P6.8: of a truth of which some things were seen wrong no more than these are wrong.
func TestNoMoreWrong(t *testing.T) {
	r := rand.New(rand.NewSource(68))
	met := map[int]int{}
	for i := range 500 {
		p := someTruth(r)
		many := i % 5
		wrong, e := paper.Wrong(mistaken(r, p.PpCase, many))
		if e != api.OK || len(wrong) > many {
			t.Errorf("%v with %d mistakes: Wrong = %v, %d", p, many, wrong, e)
		}
		met[len(wrong)]++
	}
	for n := range 3 {
		if met[n] < 10 {
			t.Errorf("%v things are wrong", met)
		}
	}
}

// P6.9: with one more thing seen no order is added, no gathering has fewer stocks for sure or more perhaps, and Left and Year are no wider.
func TestOneMore(t *testing.T) {
	fewer, surer, none := 0, 0, 0
	for i, c := range cases() {
		more := answers(t)[i]
		for k := range c.Seen {
			less := tell(t, without(c, []int{k}))
			if more.zero != api.OK {
				none += int(api.ErrZero-less.zero) / int(api.ErrZero)
				continue
			}
			if less.zero != api.OK || !hasOrders(less.orders, more.orders) {
				t.Errorf("%v: Orders = %v, without %d %v", c, more.orders, k, less.orders)
			}
			for g := range c.Gatherings {
				if !hasAll(more.sure[g], less.sure[g]) || !hasAll(less.may[g], more.may[g]) {
					t.Errorf("%v: Stocks = %v, %v, without %d %v, %v", c, more.sure, more.may, k, less.sure, less.may)
				}
				surer += len(more.sure[g]) - len(less.sure[g])
			}
			if !within(more.sheets, less.sheets) || !within(more.reams, less.reams) || !within(more.years, less.years) {
				t.Errorf("%v: Left = %v, %v, Year = %v, without %d %v, %v, %v", c, more.sheets, more.reams, more.years, k, less.sheets, less.reams, less.years)
			}
			fewer += len(less.orders) - len(more.orders)
		}
	}
	if fewer < 500 || surer < 100 || none < 50 {
		t.Errorf("by one more thing seen there are %d orders less, %d stocks are sure, in %d cases no truth agrees", fewer, surer, none)
	}
}

// P6.10: Before of b and a is the opposite of that of a and b, and what comes before something comes before all that this comes before.
func TestBefore(t *testing.T) {
	opposite := map[int]int{api.PpBefore: api.PpAfter, api.PpAfter: api.PpBefore, api.PpEither: api.PpEither}
	chains := 0
	for i, c := range cases() {
		before := answers(t)[i].before
		for a := range c.Gatherings {
			for b := range c.Gatherings {
				if before[b][a] != opposite[before[a][b]] {
					t.Errorf("%v: Before = %v", c, before)
				}
				for d := range c.Gatherings {
					if before[a][b] == api.PpBefore && before[b][d] == api.PpBefore {
						chains++
						if before[a][d] != api.PpBefore {
							t.Errorf("%v: Before = %v", c, before)
						}
					}
				}
			}
		}
	}
	if chains < 50 {
		t.Errorf("just %d chains of three", chains)
	}
}

// P6.11: with one more sheet seen of the gathering that is asked there are at most as many orders as Ask says, for one stock just as many, and no more than now; any other gathering leaves at least as many for some stock.
func TestAsked(t *testing.T) {
	fewer := 0
	for i, c := range cases() {
		a := answers(t)[i]
		if a.zero != api.OK || len(c.Seen) == api.MaxPpSeen {
			continue
		}
		if a.left > len(a.orders) || a.left < 1 {
			t.Errorf("%v: Ask = %d, %d; Orders = %v", c, a.gathering, a.left, a.orders)
		}
		for g := range c.Gatherings {
			most := 0
			for _, s := range a.may[g] {
				orders, e := paper.Orders(seeing(c, append(slices.Clone(c.Seen), seen(g, s))...))
				if e != api.OK || len(orders) > len(a.orders) {
					t.Errorf("%v with %d on %d: Orders = %v, %d", c, g, s, orders, e)
				}
				most = max(most, len(orders))
			}
			if g == a.gathering && most != a.left || g < a.gathering && most <= a.left || most < a.left {
				t.Errorf("%v: Ask = %d, %d, but %d leaves %d", c, a.gathering, a.left, g, most)
			}
		}
		if a.left < len(a.orders) {
			fewer++
		}
	}
	if fewer < 20 {
		t.Errorf("just in %d cases fewer orders are left", fewer)
	}
}

// mapped are orders each gathering of which becomes another one, in their order.
func mapped(orders [][]int, become func(order []int, place int) int) [][]int {
	var list [][]int
	for _, o := range orders {
		var m []int
		for place := range o {
			m = append(m, become(o, place))
		}
		list = append(list, m)
	}
	slices.SortFunc(list, slices.Compare)
	return list
}

// P6.12: if the gatherings are numbered the other way round, so are all orders, and what is told of gatherings; what is left, reams and year are the same.
func TestRenamed(t *testing.T) {
	for i, c := range cases() {
		a, b := answers(t)[i], tell(t, renamed(c))
		last := c.Gatherings - 1
		want := mapped(a.orders, func(o []int, place int) int { return last - o[place] })
		if a.zero != b.zero || !slices.EqualFunc(b.orders, want, slices.Equal) {
			t.Errorf("%v renamed: Orders = %v, were %v", c, b.orders, a.orders)
		}
		if a.sheets != b.sheets || a.reams != b.reams || a.years != b.years || a.left != b.left || a.down != b.down || !slices.Equal(a.wrong, b.wrong) {
			t.Errorf("%v renamed: %v, was %v", c, b, a)
		}
		for g := range c.Gatherings {
			if !slices.Equal(a.sure[g], b.sure[last-g]) || !slices.Equal(a.may[g], b.may[last-g]) {
				t.Errorf("%v renamed: Stocks = %v, %v, were %v, %v", c, b.sure, b.may, a.sure, a.may)
			}
			for h := range c.Gatherings {
				if a.before[g][h] != b.before[last-g][last-h] {
					t.Errorf("%v renamed: Before = %v, was %v", c, b.before, a.before)
				}
			}
		}
	}
}

// usedUp is something that was printed on reams of known numbers of sheets that it used up, with at most so many mistakes.
func usedUp(r *rand.Rand, mistakes int) (api.PpCase, bool) {
	p := someTruth(r)
	left := p.truth().left
	for i, n := range p.sheets {
		if i == len(p.sheets)-1 {
			n -= left
		}
		p.Reams[i].Sheets = span(n, n)
	}
	c := mistaken(r, p.PpCase, mistakes)
	_, _, e := paper.Check(c)
	return c, e == api.OK
}

// P6.13: if each ream has a known number of sheets, and the pile is used up, all orders are turned round if the pile is turned upside down.
func TestTurned(t *testing.T) {
	r := rand.New(rand.NewSource(613))
	tried, some := 0, 0
	for i := range 500 {
		c, can := usedUp(r, i%4)
		if !can {
			continue // the last ream was not begun
		}
		a, b := tell(t, c), tell(t, turned(c))
		want := mapped(a.orders, func(o []int, place int) int { return o[len(o)-1-place] })
		if a.zero != b.zero || !slices.EqualFunc(b.orders, want, slices.Equal) {
			t.Errorf("%v turned: Orders = %v, were %v", c, b.orders, a.orders)
		}
		if a.zero == api.OK && a.sheets != span(0, 0) || a.sheets != b.sheets || a.reams != b.reams || a.years != b.years || !slices.Equal(a.wrong, b.wrong) || a.gathering != b.gathering || a.left != b.left {
			t.Errorf("%v turned: %v, was %v", c, b, a)
		}
		for g := range c.Gatherings {
			if !slices.Equal(a.sure[g], b.sure[g]) || !slices.Equal(a.may[g], b.may[g]) {
				t.Errorf("%v turned: Stocks = %v, %v, were %v, %v", c, b.sure, b.may, a.sure, a.may)
			}
			for h := range c.Gatherings {
				if a.before[g][h] != b.before[h][g] {
					t.Errorf("%v turned: Before = %v, was %v", c, b.before, a.before)
				}
			}
		}
		tried++
		if len(a.orders) > 0 && len(a.orders) < len(permuted()[c.Gatherings]) {
			some++
		}
	}
	if tried < 200 || some < 50 {
		t.Errorf("%d cases, %d of them with some of all orders", tried, some)
	}
}

// P6.14: if a ream of a known number of sheets is parted into two of the same stock, all is the same, but for the reams, which are at least as many.
func TestParted(t *testing.T) {
	r := rand.New(rand.NewSource(614))
	tried, more := 0, 0
	for i, c := range cases() {
		for at, ream := range c.Reams {
			n := ream.Sheets.Lo
			if len(c.Reams) == api.MaxPpReams || n < ream.Sheets.Hi || n == 1 {
				continue
			}
			for _, first := range []int{1, 1 + r.Intn(n-1), n - 1} {
				a, b := answers(t)[i], tell(t, parted(c, at, first))
				if b.reams.Lo < a.reams.Lo || b.reams.Hi < a.reams.Hi {
					t.Errorf("%v parted at %d: Left: %v reams, were %v", c, at, b.reams, a.reams)
				}
				if b.reams != a.reams {
					more++
				}
				b.reams = a.reams
				if differ(b, a) != "" {
					t.Errorf("%v parted at %d: %s: %v, was %v", c, at, differ(b, a), b, a)
				}
				tried++
			}
		}
	}
	if tried < 100 || more < 20 {
		t.Errorf("%d reams were parted, %d times more were used", tried, more)
	}
}
