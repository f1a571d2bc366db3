package quire

import "duodecimo/api"

// The parts of a book in which Check finds an error.
const (
	partNone = iota
	partBook
	partGatherings
)

// within reports whether all numbers are from lo to hi.
func within(lo, hi int, numbers ...int) bool {
	for _, n := range numbers {
		if n < lo || n > hi {
			return false
		}
	}
	return true
}

// firstError returns the index and the error of the first element with one.
func firstError[T any](list []T, check func(int, T) api.Errno) (int, api.Errno) {
	for i, x := range list {
		if e := check(i, x); e != api.OK {
			return i, e
		}
	}
	return 0, api.OK
}

// earlier is what the gatherings in front of one say about it: their signatures, and the last lettered one.
type earlier struct {
	sigs map[api.QuSig]bool
	last api.QuSig
}

// check returns the error of a gathering, and takes one without an error among the earlier ones.
func (b *earlier) check(_ int, g api.QuGathering) api.Errno {
	switch {
	case !isSig(g.Sig):
		return api.ErrRange
	case b.sigs[g.Sig]:
		return api.ErrTwice
	case lettered(g.Sig) && !behind(g.Sig, b.last):
		return api.ErrArg
	case !isFolded(g.Leaves):
		return api.ErrRange
	case len(g.Changes) > api.MaxQuChanges:
		return api.ErrLong
	}
	b.sigs[g.Sig] = true
	if lettered(g.Sig) {
		b.last = g.Sig
	}
	_, e := firstError(g.Changes, func(i int, c api.QuChange) api.Errno {
		switch {
		case deedOf(c) == nil:
			return api.ErrForm
		case !inRange(c, g.Leaves):
			return api.ErrRange
		case i > 0 && !inOrder(g.Changes[i-1], c):
			return api.ErrArg
		}
		return api.OK
	})
	return e
}

// isFolded reports whether a gathering can have so many leaves.
func isFolded(leaves int) bool {
	return leaves == 1 || leaves%2 == 0 && within(2, api.MaxQuLeaves, leaves)
}

// inRange reports whether At and Many of a change are as its kind and the leaves of its gathering allow.
func inRange(c api.QuChange, leaves int) bool {
	if c.Kind == api.QuPlus {
		return within(0, leaves, c.At) && within(1, api.MaxQuPlus, c.Many)
	}
	return within(1, leaves, c.At) && c.Many == 0
}

// inOrder reports whether a change may come right behind another one.
func inOrder(before, c api.QuChange) bool {
	if c.At == before.At {
		return c.Kind == api.QuPlus && before.Kind != api.QuPlus
	}
	return c.At > before.At
}
