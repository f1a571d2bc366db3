package fold

import (
	"iter"
	"slices"

	"duodecimo/api"
	"duodecimo/pick"
)

// The parts of what is seen in which CheckBook finds an error.
const (
	partLeaves = 1
	partChain  = 2
	partSizes  = 3
	partMarks  = 4
)

// The pieces of evidence: the marks come last.
const (
	pieceChain = 0
	pieceWide  = 1
	pieceHigh  = 2
	pieceMarks = 3
)

// markError returns a function that returns the error of a mark in a gathering of so many leaves.
func markError(leaves int) func(int, api.FoMark) api.Errno {
	return func(_ int, m api.FoMark) api.Errno {
		if m.Leaf < 0 || m.Leaf >= leaves {
			return api.ErrNone
		}
		return api.OK
	}
}

// seen is what is seen of a gathering, and the ways of making that have as many leaves.
type seen struct {
	api.FoBook
	ways []way
}

// openCase returns what is seen with the ways of making, or the error of CheckBook.
func openCase(p api.FoPress, b api.FoBook) (seen, api.Errno) {
	if _, _, e := CheckBook(p, b); e != api.OK {
		return seen{}, e
	}
	c := seen{FoBook: b}
	v := press{p}
	for m := range v.makes() {
		if w := v.way(m); len(w.leaves) == b.Leaves {
			c.ways = append(c.ways, w)
		}
	}
	return c, api.OK
}

// all returns the set of all pieces.
func (c seen) all() pick.Set { return pick.All(pieceMarks + len(c.Marks)) }

// agreeing yields the ways of making that agree with some pieces.
func (c seen) agreeing(some pick.Set) iter.Seq[way] {
	return func(yield func(way) bool) {
	ways:
		for _, w := range c.ways {
			for piece, isTrue := range c.plain(w) {
				if some.Has(piece) && !isTrue {
					continue ways
				}
			}
			for sheet := range w.Sheets {
				if !c.canBeMarked(w, sheet, some) {
					continue ways
				}
			}
			if !yield(w) {
				return
			}
		}
	}
}

// plain returns of each piece that is no mark whether it is true of a way of making.
func (c seen) plain(w way) [pieceMarks]bool {
	wide, high := w.sizes()
	return [pieceMarks]bool{
		pieceChain: c.Chain == api.FoUnknown || (c.Chain == api.FoUpright) == w.upright(),
		pieceWide:  meet(wide, c.Wide),
		pieceHigh:  meet(high, c.High),
	}
}

// meet reports whether two spans have a number in common.
func meet(a, b api.Span) bool { return a.Lo <= b.Hi && b.Lo <= a.Hi }

// canBeMarked reports whether a sheet can have its watermark in one of its halves so that all marks of its leaves among some pieces are true.
func (c seen) canBeMarked(w way, sheet int, some pick.Set) bool {
	allTrue := func(half int) bool {
		for i, m := range c.Marks {
			asked := some.Has(pieceMarks+i) && w.leaves[m.Leaf].Sheet == sheet
			if asked && w.marked(m.Leaf, half) != m.Seen {
				return false
			}
		}
		return true
	}
	return allTrue(0) || allTrue(1)
}

// together returns the leaves that are of the same sheet as one in all ways of making that agree, and those that are in some; and whether there is such a way.
func (c seen) together(leaf int) (must, may []int, ok bool) {
	var asked []func(a, b int) bool
	for w := range c.agreeing(c.all()) {
		asked = append(asked, w.together)
	}
	must, may = pick.Sure(slices.Values(asked), c.Leaves, func(together func(a, b int) bool, other int) bool {
		return other != leaf && together(leaf, other)
	})
	return must, may, len(asked) > 0
}

// wrong returns the fewest pieces without which some way of making agrees. There is a way at least if all are wrong.
func (c seen) wrong() []int {
	all := c.all()
	best := all
	for some := range all {
		if some.Ahead(best) && c.agrees(all&^some) {
			best = some
		}
	}
	return best.List()
}

// agrees reports whether some way of making agrees with some pieces.
func (c seen) agrees(some pick.Set) bool {
	for range c.agreeing(some) {
		return true
	}
	return false
}
