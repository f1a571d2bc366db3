package owner

import (
	"iter"
	"slices"

	"duodecimo/api"
	"duodecimo/pick"
)

// orders yields, in their order, all orders of some owners.
func (v volume) orders() iter.Seq[[]int] {
	return func(yield func([]int) bool) {
		for some := range len(v.Owners) + 1 {
			for order := range pick.OrdersOf(some, len(v.Owners)) {
				if !yield(order) {
					return
				}
			}
		}
	}
}

// ahead reports whether an owner comes before another one in an order that has both.
func ahead(order []int, a, b int) bool {
	i := slices.Index(order, a)
	return i >= 0 && slices.Contains(order[i+1:], b)
}

// hasKnown reports whether an order has all owners of marks, and all that are known of sales.
func (v volume) hasKnown(order []int) bool {
	for _, m := range v.Marks {
		if !slices.Contains(order, m.Owner) {
			return false
		}
	}
	for owner := range v.told {
		if !slices.Contains(order, owner) {
			return false
		}
	}
	return true
}

// layered reports whether in an order that has the owners of all marks none of these lies upon one of a later owner.
func (v volume) layered(order []int) bool {
	return !slices.ContainsFunc(v.Marks, func(m api.OwMark) bool {
		return m.Upon != api.OwNone && ahead(order, m.Owner, v.Marks[m.Upon].Owner)
	})
}

// handedOn reports whether in an order that has all who are known of sales each buyer comes directly behind the seller.
func (v volume) handedOn(order []int) bool {
	for seller, d := range v.told {
		for _, buyer := range d.buyers {
			if slices.Index(order, buyer) != slices.Index(order, seller)+1 {
				return false
			}
		}
	}
	return true
}

// dated reports whether there are years for all owners and marks of a layered order.
func (v volume) dated(order []int) bool {
	y := v.dates(order)
	for _, owner := range order {
		if !possible(y.from[owner], y.to[owner]) {
			return false
		}
	}
	return possible(y.made[:]...)
}

// chain is what there is in chains of an order: all years, and the one of these chains that is told, with its unknown owners.
type chain struct {
	order []int
	years
	holds   []api.OwHold
	unknown int
}

// chain returns what there is in chains of an order that has some.
func (v volume) chain(order []int) chain {
	y := v.dates(order)
	holds := y.holds(order)
	return chain{order, y, holds, v.unknown(holds)}
}

// unknown returns how many unknown owners there are if these have the copy.
func (v volume) unknown(holds []api.OwHold) int {
	if len(holds) == 0 {
		return 1
	}
	many, upTo := 0, v.Printed
	for _, h := range holds {
		if h.From > upTo {
			many++
		}
		upTo = h.To
	}
	if upTo < v.Now {
		many++
	}
	return many
}

// fewer reports whether a chain has fewer unknown owners than another one.
func (c chain) fewer(other chain) bool { return c.unknown < other.unknown }

// owns reports whether an owner has the copy in a year in some chain.
func (c chain) owns(owner, year int) bool {
	return slices.Contains(c.order, owner) && c.from[owner].Lo <= year && year <= c.to[owner].Hi
}

// chains yields what there is in chains of each one of some orders that has some.
func (v volume) chains(orders iter.Seq[[]int]) iter.Seq[chain] {
	return func(yield func(chain) bool) {
		// Each one is asked of orders that fulfil those before it.
		musts := []func([]int) bool{v.hasKnown, v.layered, v.handedOn, v.dated}
	orders:
		for order := range orders {
			for _, fulfils := range musts {
				if !fulfils(order) {
					continue orders
				}
			}
			if !yield(v.chain(order)) {
				return
			}
		}
	}
}

// first returns what there is in chains of the first one of some orders that has some, and whether there is such an order.
func (v volume) first(orders iter.Seq[[]int]) (chain, bool) {
	for c := range v.chains(orders) {
		return c, true
	}
	return chain{}, false
}

// traced returns what there is in chains of all orders that have some, or ErrZero if there is none.
func (v volume) traced() ([]chain, api.Errno) {
	list := slices.Collect(v.chains(v.orders()))
	if len(list) == 0 {
		return nil, api.ErrZero
	}
	return list, api.OK
}

// owned returns the owners who have the copy in a year in some chain, ascending, or ErrZero if there is no chain.
func (v volume) owned(year int) ([]int, api.Errno) {
	chains, e := v.traced()
	if e != api.OK {
		return nil, e
	}
	_, some := pick.Sure(slices.Values(chains), len(v.Owners), func(c chain, owner int) bool { return c.owns(owner, year) })
	return some, api.OK
}

// forged returns the fewest marks without which there is a chain, and whether there are such marks.
func (v volume) forged() (pick.Set, bool) {
	var orders [][]int // no mark adds one to those that have a chain without any
	for c := range v.without(pick.All(len(v.Marks))).chains(v.orders()) {
		orders = append(orders, c.order)
	}
	return pick.Fewest(len(v.Marks), func(some pick.Set) bool {
		_, found := v.without(some).first(slices.Values(orders))
		return found
	})
}
