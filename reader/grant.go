package reader

import (
	"iter"
	"slices"

	"duodecimo/api"
	"duodecimo/pick"
)

// can reports whether some requests can be granted together.
func (v room) can(requests []int) bool {
	for range v.seatings(requests) {
		return true
	}
	return false
}

// grantable yields all sets of requests that can be granted together.
func (v room) grantable() iter.Seq[pick.Set] {
	return func(yield func(pick.Set) bool) {
		var granted [1 << api.MaxRdRequests]bool // by sets
	sets:
		for some := range pick.All(len(v.Requests)) + 1 {
			requests := some.List()
			// Of requests that can be granted together any part can be, and each part is a lesser number.
			for _, request := range requests {
				if !granted[some&^pick.One(request)] {
					continue sets
				}
			}
			granted[some] = v.can(requests)
			if granted[some] && !yield(some) {
				return
			}
		}
	}
}

// worth returns what some requests are worth, together.
func (v room) worth(some pick.Set) int {
	all := 0
	for _, request := range some.List() {
		all += v.Requests[request].Worth
	}
	return all
}

// ahead reports whether some requests are worth more than others, or as much, and come first as a list.
func (v room) ahead(some, others pick.Set) bool {
	if worth, other := v.worth(some), v.worth(others); worth != other {
		return worth > other
	}
	return slices.Compare(some.List(), others.List()) < 0
}

// best returns the requests that can be granted together and are worth most; that none are granted is always possible.
func (v room) best() pick.Set {
	best, _ := pick.Best(v.grantable(), v.ahead)
	return best
}

// most returns what requests that can be granted together are worth at most.
func (v room) most() int { return v.worth(v.best()) }
