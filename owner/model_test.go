package owner_test

import (
	"math"
	"slices"

	"duodecimo/api"
)

// spell is from which year, and up to which one, an owner has the copy.
type spell struct{ from, to int }

// model is a case with all spells that each owner can have, if no others are looked at.
type model struct {
	api.OwCase
	spells [][]spell
}

// modelOf tries all spells of each owner.
func modelOf(c api.OwCase) model {
	m := model{OwCase: c}
	for i := range c.Owners {
		var list []spell
		for from := c.Printed; from <= c.Now; from++ {
			for to := from; to <= c.Now; to++ {
				if s := (spell{from, to}); lives(c, i, s) && sells(c, i, s) && marks(c, i, s) {
					list = append(list, s)
				}
			}
		}
		m.spells = append(m.spells, list)
	}
	return m
}

// lives reports whether an owner lives in a spell.
func lives(c api.OwCase, owner int, s spell) bool {
	return s.from >= c.Owners[owner].Born && s.to <= c.Owners[owner].Died
}

// sells reports whether an owner buys and sells the copy at the ends of a spell, as sales say.
func sells(c api.OwCase, owner int, s spell) bool {
	for _, x := range c.Sales {
		if x.To == owner && x.Year != s.from || x.From == owner && x.Year != s.to {
			return false
		}
	}
	return true
}

// marks reports whether an owner can make all marks in a spell, each one as early as it can be.
func marks(c api.OwCase, owner int, s spell) bool {
	made := make([]int, len(c.Marks))
	for i, x := range c.Marks {
		if x.Owner != owner {
			continue
		}
		made[i] = max(s.from, x.Year.Lo)
		if x.Upon != none && c.Marks[x.Upon].Owner == owner {
			made[i] = max(made[i], made[x.Upon])
		}
		if made[i] > min(s.to, x.Year.Hi) {
			return false
		}
	}
	return true
}

// placed reports whether an order has all owners whom it must have, each one where it must be.
func placed(c api.OwCase, order []int) bool {
	at := map[int]int{}
	for i, owner := range order {
		at[owner] = i
	}
	in := func(owner int) bool {
		_, is := at[owner]
		return is
	}
	for _, x := range c.Marks {
		if !in(x.Owner) || x.Upon != none && at[x.Owner] < at[c.Marks[x.Upon].Owner] {
			return false
		}
	}
	for _, x := range c.Sales {
		if x.From != none && !in(x.From) || x.To != none && !in(x.To) || x.From != none && x.To != none && at[x.To]-at[x.From] != 1 {
			return false
		}
	}
	return true
}

// whole are the spells of each owner of an order that are in some chain, and whether there is one.
func (m model) whole(order []int) ([][]spell, bool) {
	if !placed(m.OwCase, order) {
		return nil, false
	}
	var list [][]spell
	soonest := m.Printed
	for _, owner := range order {
		var in []spell
		next := math.MaxInt
		for _, s := range m.spells[owner] {
			if s.from >= soonest {
				in = append(in, s)
				next = min(next, s.to)
			}
		}
		if in == nil {
			return nil, false
		}
		list, soonest = append(list, in), next
	}
	latest := m.Now
	for i, in := range slices.Backward(list) {
		list[i] = slices.DeleteFunc(in, func(s spell) bool { return s.to > latest })
		latest = 0
		for _, s := range list[i] {
			latest = max(latest, s.from)
		}
	}
	return list, true
}

// has reports whether there is a chain.
func (m model) has() bool {
	return slices.ContainsFunc(ordersOf(m.OwCase), func(order []int) bool {
		_, is := m.whole(order)
		return is
	})
}

// unknown are how few unknown owners there are in chains of these spells, by the year up to which the last one had the copy.
func (m model) unknown(spells [][]spell) int {
	if len(spells) == 0 {
		return 1
	}
	const never = 1000
	upTo := slices.Repeat([]int{never}, m.Now-m.Printed+1)
	upTo[0] = 0
	for _, list := range spells {
		from := slices.Clone(upTo)
		before := never
		for y := range from {
			from[y] = min(upTo[y], before+1)
			before = min(before, upTo[y])
		}
		upTo = slices.Repeat([]int{never}, len(upTo))
		for _, s := range list {
			upTo[s.to-m.Printed] = min(upTo[s.to-m.Printed], from[s.from-m.Printed])
		}
	}
	fewest := upTo[len(upTo)-1]
	for _, n := range upTo[:len(upTo)-1] {
		fewest = min(fewest, n+1)
	}
	return fewest
}

// holds are who has the copy from the earliest year of all spells, and up to the latest one with these.
func holdsOf(order []int, spells [][]spell, now int) []api.OwHold {
	from := make([]int, len(order)+1)
	from[len(order)] = now
	for i, list := range spells {
		from[i] = now
		for _, s := range list {
			from[i] = min(from[i], s.from)
		}
	}
	var holds []api.OwHold
	for i, list := range spells {
		to := 0
		for _, s := range list {
			if s.from == from[i] && s.to <= from[i+1] {
				to = max(to, s.to)
			}
		}
		holds = append(holds, hold(order[i], from[i], to))
	}
	return holds
}

// comes reports whether an order has two owners, one of them before the other one.
func comes(order []int, a, b int) bool {
	i, k := slices.Index(order, a), slices.Index(order, b)
	return i >= 0 && k >= 0 && i < k
}

// beforeOf is which of two owners comes first in orders that have a chain.
func beforeOf(orders [][]int, a, b int) int {
	both, first := 0, 0
	for _, order := range orders {
		if comes(order, a, b) {
			first++
		}
		if comes(order, a, b) || comes(order, b, a) {
			both++
		}
	}
	switch {
	case both > 0 && first == both:
		return api.OwBefore
	case both > 0 && first == 0:
		return api.OwAfter
	}
	return api.OwEither
}

// yearOf are the least and the greatest year of a mark with which there is a chain.
func yearOf(c api.OwCase, mark int) api.Span {
	is := func(year int) bool { return modelOf(known(c, mark, year)).has() }
	s := c.Marks[mark].Year
	for !is(s.Lo) {
		s.Lo++
	}
	for !is(s.Hi) {
		s.Hi--
	}
	return s
}

// forgedOf are the first of the fewest marks without which there is a chain.
func forgedOf(c api.OwCase) ([]int, api.Errno) {
	for _, some := range subsets()[len(c.Marks)] {
		if modelOf(without(c, some)).has() {
			return some, api.OK
		}
	}
	return nil, api.ErrDown
}

// modelled is what must be told of a case.
func modelled(c api.OwCase) told {
	m := modelOf(c)
	x := told{unknown: math.MaxInt, zero: api.OK}
	owned := map[int]map[int]bool{} // by years and owners
	for _, year := range asked(c) {
		owned[year] = map[int]bool{}
	}
	var orders [][]int
	for _, order := range ordersOf(c) {
		spells, is := m.whole(order)
		if !is {
			x.why = append(x.why, impossible)
			continue
		}
		orders = append(orders, order)
		n := m.unknown(spells)
		x.why = append(x.why, n)
		if n < x.unknown {
			x.holds, x.unknown = holdsOf(order, spells, c.Now), n
		}
		for i, list := range spells {
			for year := range owned {
				if slices.ContainsFunc(list, func(s spell) bool { return s.from <= year && year <= s.to }) {
					owned[year][order[i]] = true
				}
			}
		}
	}
	if len(orders) == 0 {
		x.unknown, x.zero = 0, api.ErrZero
	}
	x.fill(c, orders, owned)
	for i := range c.Marks {
		year := api.Span{}
		if x.zero == api.OK {
			year = yearOf(c, i)
		}
		x.years = append(x.years, year)
	}
	x.forged, x.down = forgedOf(c)
	return x
}

// fill adds who comes before whom in orders that have a chain, and who has the copy in which years.
func (x *told) fill(c api.OwCase, orders [][]int, owned map[int]map[int]bool) {
	for a := range c.Owners {
		x.before = append(x.before, nil)
		for b := range c.Owners {
			n := 0
			if a != b {
				n = beforeOf(orders, a, b)
			}
			x.before[a] = append(x.before[a], n)
		}
	}
	for _, year := range asked(c) {
		var list []int
		for i := range c.Owners {
			if owned[year][i] {
				list = append(list, i)
			}
		}
		x.owned = append(x.owned, list)
	}
}
