package quire

import (
	"duodecimo/api"
	"duodecimo/check"
)

// The parts of a book in which Check finds an error.
const (
	partNone = iota
	partBook
	partGatherings
)

// earlier is what the gatherings in front of one say about it: their signatures, and the last lettered one.
type earlier struct {
	sigs map[api.QuSig]bool
	last api.QuSig
}

// check returns the error of a gathering, and takes one without an error among the earlier ones.
func (b *earlier) check(_ int, g api.QuGathering) api.Errno {
	switch {
	case !isSig(g.Sig):
		return api.ErrRange
	case b.sigs[g.Sig]:
		return api.ErrTwice
	case lettered(g.Sig) && !behind(g.Sig, b.last):
		return api.ErrArg
	case !isFolded(g.Leaves):
		return api.ErrRange
	case len(g.Changes) > api.MaxQuChanges:
		return api.ErrLong
	}
	b.sigs[g.Sig] = true
	if lettered(g.Sig) {
		b.last = g.Sig
	}
	_, e := check.First(g.Changes, func(i int, c api.QuChange) api.Errno {
		switch {
		case deedOf(c) == nil:
			return api.ErrForm
		case !inRange(c, g.Leaves):
			return api.ErrRange
		case i > 0 && !inOrder(g.Changes[i-1], c):
			return api.ErrArg
		}
		return api.OK
	})
	return e
}

// isFolded reports whether a gathering can have so many leaves.
func isFolded(leaves int) bool {
	return leaves == 1 || leaves%2 == 0 && check.Within(2, api.MaxQuLeaves, leaves)
}

// inRange reports whether At and Many of a change are as its kind and the leaves of its gathering allow.
func inRange(c api.QuChange, leaves int) bool {
	if c.Kind == api.QuPlus {
		return check.Within(0, leaves, c.At) && check.Within(1, api.MaxQuPlus, c.Many)
	}
	return check.Within(1, leaves, c.At) && c.Many == 0
}

// inOrder reports whether a change may come right behind another one.
func inOrder(before, c api.QuChange) bool {
	if c.At == before.At {
		return c.Kind == api.QuPlus && before.Kind != api.QuPlus
	}
	return c.At > before.At
}
