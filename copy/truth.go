package copy

import (
	"iter"
	"math"
	"slices"

	"duodecimo/api"
	"duodecimo/pick"
)

// noLeaf is what a strange item is.
const noLeaf = -1

// truth is a truth of a case.
type truth struct {
	binding
	told  []int       // which leaf each item is
	first map[int]int // by the leaves that were met: the first item that is this leaf
}

// truths yields all truths, in their order, each one with a list of its own.
func (b binding) truths() iter.Seq[truth] {
	return func(yield func(truth) bool) {
		for told := range pick.Lists(len(b.Items), b.could) {
			if !yield(b.truth(told)) {
				return
			}
		}
	}
}

// could returns what the item behind some others can be.
func (b binding) could(ahead []int) []int {
	item := b.Items[len(ahead)]
	if len(item.Could) == 0 {
		return []int{noLeaf}
	}
	return item.Could
}

// truth returns the truth in which the items are these leaves.
func (b binding) truth(told []int) truth {
	t := truth{b, told, map[int]int{}}
	for item, leaf := range told {
		if _, met := t.first[leaf]; !met && leaf != noLeaf {
			t.first[leaf] = item
		}
	}
	return t
}

// lost reports whether a leaf is lost.
func (t truth) lost(leaf int) bool {
	_, met := t.first[leaf]
	return !met
}

// loose reports whether a leaf is loose.
func (t truth) loose(leaf int) bool {
	mate, has := t.mates[leaf]
	return has && !t.lost(leaf) && t.lost(mate)
}

// own reports whether an item is neither strange nor there twice.
func (t truth) own(item int) bool {
	first, met := t.first[t.told[item]]
	return met && first == item
}

// pieces returns of each lost piece its first leaf.
func (t truth) pieces() []int {
	return pick.Where(len(t.leaves), func(leaf int) bool {
		mate, has := t.mates[leaf]
		return t.lost(leaf) && !(has && mate < leaf && t.lost(mate))
	})
}

// strange returns the items that are strange.
func (t truth) strange() []int {
	return pick.Where(len(t.told), func(item int) bool { return t.told[item] == noLeaf })
}

// twice returns the items that are there twice.
func (t truth) twice() []int {
	return pick.Where(len(t.told), func(item int) bool { return t.told[item] != noLeaf && !t.own(item) })
}

// bound returns the items that are neither strange nor there twice, in the order of their leaves.
func (t truth) bound() []int {
	var list []int
	for leaf := range len(t.leaves) {
		if item, met := t.first[leaf]; met {
			list = append(list, item)
		}
	}
	return list
}

// kinds returns what is asked of a truth to find its faults of each kind.
func kinds() [4]func(truth) []int {
	return [4]func(truth) []int{truth.pieces, truth.strange, truth.twice, truth.moved}
}

// all returns how many faults there are.
func (t truth) all() int {
	all := 0
	for _, faults := range kinds() {
		all += len(faults(t))
	}
	return all
}

// faults returns the faults.
func (t truth) faults() api.CpFaults {
	return api.CpFaults{
		Leaves:  t.told,
		Lost:    pick.Where(len(t.leaves), t.lost),
		Pieces:  len(t.pieces()),
		Strange: t.strange(),
		Twice:   t.twice(),
		Moved:   t.moved(),
		All:     t.all(),
	}
}

// fewest returns the first truth of those with the fewest faults.
func (b binding) fewest() truth {
	var best truth
	fewest := math.MaxInt
truths:
	for t := range b.truths() {
		all := 0
		for _, faults := range kinds() {
			all += len(faults(t))
			if all >= fewest {
				continue truths
			}
		}
		best, fewest = t, all
	}
	return best
}

// faultsOf returns the least and the greatest number of faults of all truths.
func (b binding) faultsOf() api.Span {
	var all []int
	for t := range b.truths() {
		all = append(all, t.all())
	}
	return api.Span{Lo: slices.Min(all), Hi: slices.Max(all)}
}

// worst returns how wide the range of faults is at worst, if an item were known.
func (b binding) worst(item int) int {
	wide := 0
	for _, leaf := range b.Items[item].Could {
		s := b.known(item, leaf).faultsOf()
		wide = max(wide, s.Hi-s.Lo)
	}
	return wide
}
