package made

import (
	"slices"

	"duodecimo/api"
	"duodecimo/check"
	"duodecimo/quire"
)

// The parts of a set in which Check finds an error.
const (
	partNone = iota
	partPrice
	partLeaves
	partCopies
)

// The kinds of leaves: the last one is api.MaxMaKinds. A leaf that is missing has none, nor has one of which it is not known.
const (
	kindNone = iota
	kindFirst
)

// leafError returns a function that is given one of these leaves after the other, and returns the error of each.
func leafError(leaves []api.MaLeaf) func(int, api.MaLeaf) api.Errno {
	nameError := check.Names(quire.Name)
	return func(i int, l api.MaLeaf) api.Errno {
		if e := nameError(l.Name); e != api.OK {
			return e
		}
		mated := l.Mate != api.MaNone
		switch {
		case mated && !check.Within(0, len(leaves)-1, l.Mate):
			return api.ErrNone
		case mated && (l.Mate == i || leaves[l.Mate].Mate != i):
			return api.ErrArg
		case !check.Within(0, api.MaxMaShare, l.Share):
			return api.ErrRange
		}
		return api.OK
	}
}

// copyError returns a function that is given one copy of so many leaves after the other, and returns the error of each.
func copyError(leaves int) func(int, api.MaCopy) api.Errno {
	nameError := check.Names(quire.Name)
	return func(_ int, c api.MaCopy) api.Errno {
		if e := nameError(c.Name); e != api.OK {
			return e
		}
		switch {
		case len(c.Has) != leaves:
			return api.ErrLong
		case !check.Within(kindNone, api.MaxMaKinds, c.Has...):
			return api.ErrRange
		}
		return api.OK
	}
}

// held is a leaf of a kind.
type held struct{ leaf, kind int }

// set is a set without an error that is looked at.
type set struct {
	api.MaSet
	holders map[held][]int // the copies that have a leaf of a kind, ascending
}

// open returns the set to look at, or its error.
func open(s api.MaSet) (set, api.Errno) {
	if _, _, e := Check(s); e != api.OK {
		return set{}, e
	}
	v := set{s, map[held][]int{}}
	for i, c := range s.Copies {
		for leaf, kind := range c.Has {
			x := held{leaf, kind}
			v.holders[x] = append(v.holders[x], i)
		}
	}
	return v, api.OK
}

// openAt returns the set to look at; or its error, or ErrNone if a copy is none of it.
func openAt(s api.MaSet, copy int) (set, api.Errno) {
	v, e := open(s)
	switch {
	case e != api.OK:
		return set{}, e
	case !check.Within(0, len(v.Copies)-1, copy):
		return set{}, api.ErrNone
	}
	return v, api.OK
}

// kind returns the kind of a copy: the first one that most of its leaves have.
func (s set) kind(copy int) int {
	var many [api.MaxMaKinds + 1]int
	for _, kind := range s.Copies[copy].Has {
		many[kind]++
	}
	best := kindFirst
	for kind := kindFirst; kind <= api.MaxMaKinds; kind++ {
		if many[kind] > many[best] {
			best = kind
		}
	}
	return best
}

// donors returns the copies but one that have a leaf of a kind, ascending.
func (s set) donors(but int, x held) []int {
	return slices.DeleteFunc(slices.Clone(s.holders[x]), func(copy int) bool { return copy == but })
}

// most returns how many copies have the leaf of a kind that the fewest have, and the first such leaf.
func (s set) most(kind int) (many, leaf int) {
	for i := range s.Leaves {
		if n := len(s.holders[held{i, kind}]); i == 0 || n < many {
			many, leaf = n, i
		}
	}
	return many, leaf
}

// perMille is of how many parts of the price a share is one.
const perMille = 1000

// worth returns what a copy is worth.
func (s set) worth(copy int) int {
	worth, kind := s.Price, s.kind(copy)
	for leaf, has := range s.Copies[copy].Has {
		lost := s.Price * s.Leaves[leaf].Share
		switch has {
		case kind:
		case kindNone:
			worth -= roundedUp(lost, perMille)
		default:
			worth -= roundedUp(lost, 2*perMille)
		}
	}
	return max(0, worth)
}

// roundedUp returns a number from 0 on by another one, rounded up.
func roundedUp(n, by int) int { return (n + by - 1) / by }
