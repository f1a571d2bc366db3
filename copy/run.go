package copy

import (
	"slices"

	"duodecimo/api"
)

// run is a run: the item with which it begins, and its first and its last leaf.
type run struct{ item, first, last int }

// runs returns the runs of a truth, in their order.
func (t truth) runs() []run {
	var list []run
	for item, leaf := range t.told {
		if !t.own(item) {
			continue
		}
		if n := len(list); n > 0 && t.follows(list[n-1].last, leaf) {
			list[n-1].last = leaf
			continue
		}
		list = append(list, run{item, leaf, leaf})
	}
	return list
}

// follows reports whether a leaf can be behind another one in a run.
func (t truth) follows(before, leaf int) bool {
	return before < leaf && t.leaves[before].Gathering == t.leaves[leaf].Gathering
}

// kept returns the runs that are kept.
func kept(runs []run) []run {
	var many [api.MaxCpItems]int // how many runs can be kept from each one on, if it is kept
	most := 0
	for i, r := range slices.Backward(runs) {
		for j := i + 1; j < len(runs); j++ {
			if r.last < runs[j].first {
				many[i] = max(many[i], many[j])
			}
		}
		many[i]++
		most = max(most, many[i])
	}
	var list []run
	for i, r := range runs {
		// The first run that leaves as many to come is in the first one of all choices.
		if n := len(list); many[i] == most-n && (n == 0 || list[n-1].last < r.first) {
			list = append(list, r)
		}
	}
	return list
}

// moved returns the items with which runs begin that were moved.
func (t truth) moved() []int {
	runs := t.runs()
	keeps := kept(runs)
	var list []int
	for _, r := range runs {
		if !slices.Contains(keeps, r) {
			list = append(list, r.item)
		}
	}
	return list
}
