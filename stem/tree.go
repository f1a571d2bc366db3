package stem

import (
	"iter"
	"slices"

	"duodecimo/api"
	"duodecimo/check"
)

// absent is in a tree what an edition has that there is not, or not yet.
const absent = api.SmNone - 1

// tree is the edition that each one was set from, api.SmNone for the first one.
type tree [api.MaxSmEditions]int

// bare returns a tree without an edition.
func bare() tree {
	var t tree
	for edition := range t {
		t[edition] = absent
	}
	return t
}

// leads reports whether the way from source to source leads from an edition, or from none, to another one, or is there already.
func (t tree) leads(from, to int) bool {
	for edition := from; edition >= 0; edition = t[edition] {
		if edition == to {
			return true
		}
	}
	return false
}

// takes reports whether an edition that is not in the tree yet can have been set from this one: there is no other first one, and no way leads back.
func (t tree) takes(edition, source int) bool {
	if source == api.SmNone {
		return !slices.Contains(t[:], api.SmNone)
	}
	return !t.leads(source, edition)
}

// starts reports whether an edition is the first one.
func (t tree) starts(edition int) bool { return t[edition] == api.SmNone }

// first returns the first edition.
func (t tree) first() int { return slices.Index(t[:], api.SmNone) }

// list returns the numbers of a tree of so many editions.
func (t tree) list(editions int) []int {
	list := make([]int, editions)
	copy(list, t[:])
	return list
}

// treeOf returns the tree of so many editions with these numbers; or ErrLong if they are not as many, ErrRange if one is neither an index nor api.SmNone, or ErrArg if they are no tree.
func treeOf(list []int, editions int) (tree, api.Errno) {
	switch {
	case len(list) != editions:
		return tree{}, api.ErrLong
	case !check.Within(api.SmNone, editions-1, list...):
		return tree{}, api.ErrRange
	}
	t := bare()
	for edition, source := range list {
		if !t.takes(edition, source) {
			return tree{}, api.ErrArg
		}
		t[edition] = source
	}
	return t, api.OK
}

// trees yields, in their order, all trees of so many editions.
func trees(editions int) iter.Seq[tree] {
	return func(yield func(tree) bool) {
		t := bare()
		var grow func(edition int) bool
		grow = func(edition int) bool {
			if edition == editions {
				return yield(t)
			}
			for n := range editions + 1 {
				source := api.SmNone + n
				if !t.takes(edition, source) {
					continue
				}
				t[edition] = source
				if !grow(edition + 1) {
					return false
				}
				t[edition] = absent
			}
			return true
		}
		grow(0)
	}
}

// each yields what is asked of each of some trees.
func each[T any](trees iter.Seq[tree], ask func(tree) T) iter.Seq[T] {
	return func(yield func(T) bool) {
		for t := range trees {
			if !yield(ask(t)) {
				return
			}
		}
	}
}
