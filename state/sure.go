package state

import "duodecimo/api"

// verdict says how many orders were asked which of two came first, and how many of them said so of each.
type verdict struct{ orders, earlier, later int }

// ask asks one more order.
func (v *verdict) ask(isAhead func(a, b int) bool, a, b int) {
	v.orders++
	if isAhead(a, b) {
		v.earlier++
	}
	if isAhead(b, a) {
		v.later++
	}
}

// sure returns which of the two came first in all orders that were asked.
func (v verdict) sure() int {
	switch v.orders {
	case v.earlier:
		return api.StEarlier
	case v.later:
		return api.StLater
	}
	return api.StEither
}

// sureFirst returns the first reading of a locus, if all orders have the same one.
func sureFirst(orders []order, locus int) int {
	reading := orders[0].First[locus]
	for _, o := range orders {
		if o.First[locus] != reading {
			return api.StUnknown
		}
	}
	return reading
}

// second returns the reading that comes behind a first one, if that is known.
func second(first int) int {
	switch first {
	case api.StA:
		return api.StB
	case api.StB:
		return api.StA
	}
	return api.StUnknown
}
