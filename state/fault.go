package state

import (
	"iter"
	"slices"

	"duodecimo/api"
	"duodecimo/pick"
)

// odds yields of each order the copies that do not agree with it.
func (f forme) odds() iter.Seq[pick.Set] {
	return func(yield func(pick.Set) bool) {
		for o := range f.orders() {
			if !yield(o.odd()) {
				return
			}
		}
	}
}

// contradictions yields all sets of copies that contradict each other.
func (f forme) contradictions() iter.Seq[pick.Set] {
	odds := map[pick.Set]bool{}
	for odd := range f.odds() {
		odds[odd] = true
	}
	return func(yield func(pick.Set) bool) {
	sets:
		for some := range pick.All(len(f.Copies)) + 1 {
			for odd := range odds {
				if some&odd == 0 {
					continue sets
				}
			}
			if !yield(some) {
				return
			}
		}
	}
}

// mistakes yields of each order the fewest readings without which it agrees.
func (f forme) mistakes() iter.Seq[[]api.StReading] {
	return func(yield func([]api.StReading) bool) {
		var list []api.StReading
		for o := range f.orders() {
			list = list[:0]
			for i := range f.Copies {
				list = o.addMistakes(list, i)
			}
			// The list is used again for the next order.
			if !yield(slices.Clone(list)) {
				return
			}
		}
	}
}

// fewer reports whether a list has fewer readings than another one, or as many and comes first.
func fewer(a, b []api.StReading) bool {
	if len(a) != len(b) {
		return len(a) < len(b)
	}
	for i, r := range a {
		if r != b[i] {
			return r.Copy < b[i].Copy || r.Copy == b[i].Copy && r.Locus < b[i].Locus
		}
	}
	return false
}
