package owner_test

import (
	"slices"

	"duodecimo/api"
)

// history is a chain of a case: who had the copy when, and the year of each mark.
type history struct {
	api.OwCase
	holds []api.OwHold
	made  []int
}

// order is the order of the owners of a chain.
func (h history) order() []int {
	order := []int{}
	for _, x := range h.holds {
		order = append(order, x.Owner)
	}
	return order
}

// at is where an owner is in a chain, or none.
func (h history) at(owner int) int { return slices.Index(h.order(), owner) }

// isChain reports whether the definition says that this is a chain, word by word.
func (h history) isChain() bool {
	for i, x := range h.holds {
		o := h.Owners[x.Owner]
		if x.From < h.Printed || x.From < o.Born || x.To < x.From || x.To > o.Died || x.To > h.Now || i > 0 && x.From < h.holds[i-1].To || h.at(x.Owner) != i {
			return false
		}
	}
	for i, m := range h.Marks {
		at := h.at(m.Owner)
		if at < 0 || h.made[i] < m.Year.Lo || h.made[i] > m.Year.Hi || h.made[i] < h.holds[at].From || h.made[i] > h.holds[at].To {
			return false
		}
		if m.Upon != none && (h.made[i] < h.made[m.Upon] || at < h.at(h.Marks[m.Upon].Owner)) {
			return false
		}
	}
	for _, s := range h.Sales {
		from, to := h.at(s.From), h.at(s.To)
		if s.To != none && (to < 0 || h.holds[to].From != s.Year) || s.From != none && (from < 0 || h.holds[from].To != s.Year) {
			return false
		}
		if s.From != none && s.To != none && to != from+1 {
			return false
		}
	}
	return true
}

// tries goes through all years of owners in an order, and of marks, which the years of a case leave.
func tries(c api.OwCase, order []int, try func(history)) {
	h := history{OwCase: c}
	var mark func()
	mark = func() {
		if i := len(h.made); i < len(c.Marks) {
			for year := c.Marks[i].Year.Lo; year <= c.Marks[i].Year.Hi; year++ {
				h.made = append(h.made, year)
				mark()
				h.made = h.made[:i]
			}
			return
		}
		try(history{c, slices.Clone(h.holds), slices.Clone(h.made)})
	}
	var have func()
	have = func() {
		i := len(h.holds)
		if i == len(order) {
			mark()
			return
		}
		for from := c.Printed; from <= c.Now; from++ {
			for to := from; to <= c.Now; to++ {
				h.holds = append(h.holds, hold(order[i], from, to))
				have()
				h.holds = h.holds[:i]
			}
		}
	}
	have()
}

// chainsOf are all chains of a case in an order.
func chainsOf(c api.OwCase, order []int) []history {
	var list []history
	tries(c, order, func(h history) {
		if h.isChain() {
			list = append(list, h)
		}
	})
	return list
}

// bestOf are the holds with the earliest years from which owners have the copy in any of the chains of an order, and the latest ones up to which they have it in any with these.
func bestOf(chains []history) []api.OwHold {
	best := slices.Clone(chains[0].holds)
	for _, h := range chains {
		for i, x := range h.holds {
			best[i].From = min(best[i].From, x.From)
		}
	}
	for i := range best {
		best[i].To = 0
	}
	for _, h := range chains {
		if !slices.EqualFunc(h.holds, best, func(x, y api.OwHold) bool { return x.From == y.From }) {
			continue
		}
		for i, x := range h.holds {
			best[i].To = max(best[i].To, x.To)
		}
	}
	return best
}

// literally is what must be told of a small case, by all of its chains.
func literally(c api.OwCase) told {
	x := told{zero: api.ErrZero, years: make([]api.Span, len(c.Marks))}
	owned := map[int]map[int]bool{} // by years and owners
	for _, year := range asked(c) {
		owned[year] = map[int]bool{}
	}
	var orders [][]int
	for _, order := range ordersOf(c) {
		chains := chainsOf(c, order)
		if len(chains) == 0 {
			x.why = append(x.why, impossible)
			continue
		}
		orders = append(orders, order)
		fewest := unknownOf(c, chains[0].holds)
		for _, h := range chains {
			fewest = min(fewest, unknownOf(c, h.holds))
			for _, y := range h.holds {
				for year := range owned {
					if y.From <= year && year <= y.To {
						owned[year][y.Owner] = true
					}
				}
			}
			for i, year := range h.made {
				if s := x.years[i]; s == span(0, 0) {
					x.years[i] = span(year, year)
				} else {
					x.years[i] = span(min(s.Lo, year), max(s.Hi, year))
				}
			}
		}
		x.why = append(x.why, fewest)
		if x.zero != api.OK || fewest < x.unknown {
			x.holds, x.unknown, x.zero = bestOf(chains), fewest, api.OK
		}
	}
	x.fill(c, orders, owned)
	x.forged, x.down = literallyForged(c)
	return x
}

// literallyForged are the first of the fewest marks without which there is a chain, by all chains.
func literallyForged(c api.OwCase) ([]int, api.Errno) {
	for _, some := range subsets()[len(c.Marks)] {
		d := without(c, some)
		for _, order := range ordersOf(d) {
			if len(chainsOf(d, order)) > 0 {
				return some, api.OK
			}
		}
	}
	return nil, api.ErrDown
}
