package made

import (
	"iter"

	"duodecimo/api"
	"duodecimo/check"
	"duodecimo/pick"
)

// seenError returns the error of what is seen of a leaf.
func seenError(_ int, s api.MaSeen) api.Errno {
	if !check.Within(kindNone, api.MaxMaKinds, s.Kind) {
		return api.ErrRange
	}
	return check.Spans(1, api.MaxMaTall, s.Tall)
}

// hand is a copy in the hand without an error that is looked at.
type hand struct{ api.MaHand }

// openHand returns the copy to look at, or its error.
func openHand(h api.MaHand) (hand, api.Errno) {
	if _, e := CheckHand(h); e != api.OK {
		return hand{}, e
	}
	return hand{h}, api.OK
}

// openTold returns the copy to look at, and its leaves that are not told of; or its error, or that of those that are.
func openTold(h api.MaHand, told []int) (v hand, others pick.Set, e api.Errno) {
	v, e = openHand(h)
	switch {
	case e != api.OK:
		return hand{}, 0, e
	case !check.Within(0, len(v.Leaves)-1, told...):
		return hand{}, 0, api.ErrNone
	case !check.Ascending(told...):
		return hand{}, 0, api.ErrArg
	}
	return v, v.all() &^ pick.Of(told...), api.OK
}

// all returns all leaves.
func (h hand) all() pick.Set { return pick.All(len(h.Leaves)) }

// tall returns the numbers that are one of Tall of all of some leaves; if there are none, Lo is above Hi.
func (h hand) tall(some pick.Set) api.Span {
	all := api.Span{Lo: 1, Hi: api.MaxMaTall}
	for _, leaf := range some.List() {
		tall := h.Leaves[leaf].Tall
		all.Lo, all.Hi = max(all.Lo, tall.Lo), min(all.Hi, tall.Hi)
	}
	return all
}

// alike reports whether no two of some leaves have different kinds that are known.
func (h hand) alike(some pick.Set) bool {
	known := kindNone
	for _, leaf := range some.List() {
		kind := h.Leaves[leaf].Kind
		if kind != kindNone && known != kindNone && kind != known {
			return false
		}
		known = max(known, kind)
	}
	return true
}

// together reports whether some leaves can be of one copy.
func (h hand) together(some pick.Set) bool {
	tall := h.tall(some)
	return h.alike(some) && tall.Lo <= tall.Hi
}

// account reports whether some leaves account for the copy.
func (h hand) account(some pick.Set) bool { return h.together(h.all() &^ some) }

// foreign returns the fewest leaves that account for the copy. There are always some: all but one do.
func (h hand) foreign() pick.Set {
	some, _ := pick.Fewest(len(h.Leaves), h.account)
	return some
}

// fewest yields all sets of as few leaves as can account for the copy.
func (h hand) fewest() iter.Seq[pick.Set] {
	return func(yield func(pick.Set) bool) {
		many := len(h.foreign().List())
		for some := range h.all() + 1 {
			if len(some.List()) == many && h.account(some) && !yield(some) {
				return
			}
		}
	}
}

// sources yields, in their order, all sources with no more than so many numbers.
func (h hand) sources(most int) iter.Seq[[]int] {
	return pick.Lists(len(h.Leaves), func(given []int) []int { return following(given, most, h.together) })
}

// firstSources returns the first sources with the fewest numbers, and how many these are. There always are some: as many copies as leaves do.
func (h hand) firstSources() ([]int, int) {
	for many := 1; ; many++ {
		for sources := range h.sources(many) {
			return sources, many
		}
	}
}

// following returns the numbers, of no more than so many, that the leaf behind some that have theirs can have. It is enough that it can be of one copy with each other leaf alone: spans of which each two have a number in common have one in common all together.
func following(given []int, most int, together func(pick.Set) bool) []int {
	next := 0 // the least number that none has
	for _, n := range given {
		next = max(next, n+1)
	}
	var can []int
numbers:
	for n := range min(next+1, most) {
		for other, of := range given {
			if of == n && !together(pick.One(other)|pick.One(len(given))) {
				continue numbers
			}
		}
		can = append(can, n)
	}
	return can
}

// contradiction returns the first two of some leaves that cannot be of one copy. There are two if not all of them can: spans without a number in common are not all together if each two have one.
func (h hand) contradiction(some pick.Set) (a, b int) {
	for _, a := range some.List() {
		for _, b := range some.List() {
			if a < b && !h.together(pick.One(a)|pick.One(b)) {
				return a, b
			}
		}
	}
	return 0, 0
}
