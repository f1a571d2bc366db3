package sale

import (
	"iter"

	"duodecimo/api"
	"duodecimo/pick"
)

// rings yields all rings, in their order.
func (v sale) rings() iter.Seq[pick.Set] {
	return func(yield func(pick.Set) bool) {
		for many := range len(v.Bidders) + 1 {
			if many == 1 {
				continue // nobody is a ring alone
			}
			for members := range pick.Lists(many, v.following) {
				if !yield(pick.Of(members...)) {
					return
				}
			}
		}
	}
}

// following returns the bidders who can follow some members of a ring.
func (v sale) following(members []int) []int {
	return pick.Where(len(v.Bidders), func(bidder int) bool {
		return len(members) == 0 || bidder > members[len(members)-1]
	})
}

// ringsWith yields all rings with which something holds of the results, in their order.
func (v sale) ringsWith(holds func([]api.SaResult) bool) iter.Seq[pick.Set] {
	return func(yield func(pick.Set) bool) {
		for ring := range v.rings() {
			if holds(v.results(ring)) && !yield(ring) {
				return
			}
		}
	}
}

// results returns who buys each lot, and for what, with a ring.
func (v sale) results(ring pick.Set) []api.SaResult {
	if results, is := v.kept[ring]; is {
		return results
	}
	var results []api.SaResult
	for lot := range v.Lots {
		results = append(results, v.result(lot, v.offers[lot].with(ring)))
	}
	v.kept[ring] = results
	return results
}
