package made_test

import (
	"math/rand"
	"slices"
	"sync"

	"duodecimo/api"
)

// someMates are mates of so many leaves.
func someMates(r *rand.Rand, many int) []int {
	mates := alone(many)
	free := r.Perm(many)
	for len(free) > 1 {
		if r.Intn(4) > 0 {
			mates[free[0]], mates[free[1]] = free[1], free[0]
		}
		free = free[2:]
	}
	return mates
}

// someCopy says of so many leaves of which kind a copy has them; the more it is torn the more are missing, the more it is mixed the more are of another kind.
func someCopy(r *rand.Rand, many, torn, mixed int) []int {
	var has []int
	kind := 1 + r.Intn(api.MaxMaKinds)
	for range many {
		switch n := r.Intn(10); {
		case n < torn:
			has = append(has, 0)
		case r.Intn(10) < mixed:
			has = append(has, 1+r.Intn(api.MaxMaKinds))
		default:
			has = append(has, kind)
		}
	}
	return has
}

// tearPairs takes some leaves out of copies together with their mates.
func tearPairs(r *rand.Rand, mates []int, has [][]int) {
	for _, h := range has {
		for leaf, mate := range mates {
			if mate != none && r.Intn(4) == 0 {
				h[leaf], h[mate] = 0, 0
			}
		}
	}
}

// someSet is a set of so many leaves and copies.
func someSet(r *rand.Rand, leaves, copies int) api.MaSet {
	torn, mixed := oneOf(r, 0, 1, 2, 3, 4, 7), oneOf(r, 0, 1, 3, 10)
	var has [][]int
	each := r.Intn(2) == 0 // each copy is torn in its own way
	for range copies {
		has = append(has, someCopy(r, leaves, torn, mixed))
		if each {
			torn, mixed = oneOf(r, 1, 2, 5), oneOf(r, 0, 0, 1)
		}
	}
	mates := someMates(r, leaves)
	if r.Intn(2) == 0 {
		tearPairs(r, mates, has)
	}
	s := setOf(mates, has...)
	s.Price = oneOf(r, 0, 1, r.Intn(10), r.Intn(100), 1000, r.Intn(api.MaxMaPrice+1), api.MaxMaPrice-1, api.MaxMaPrice)
	for i := range s.Leaves {
		s.Leaves[i].Share = oneOf(r, 0, 1, r.Intn(20), r.Intn(200), r.Intn(api.MaxMaShare+1), api.MaxMaShare)
	}
	return s
}

// mixedSet is a set of whole copies that have exchanged some leaves, and lost some.
func mixedSet(r *rand.Rand, leaves, copies int) api.MaSet {
	var has [][]int
	for range copies {
		has = append(has, slices.Repeat(list(1+r.Intn(api.MaxMaKinds)), leaves))
	}
	for range r.Intn(3 * leaves) {
		k, a, b := r.Intn(leaves), has[r.Intn(copies)], has[r.Intn(copies)]
		a[k], b[k] = b[k], a[k]
	}
	for range r.Intn(3) {
		has[r.Intn(copies)][r.Intn(leaves)] = 0
	}
	return setOf(someMates(r, leaves), has...)
}

// specialSets are sets at the limits, and in which nothing can be done, or need not be.
func specialSets() []api.MaSet {
	one, two, three := list(1, 1, 1, 1, 1, 1), list(2, 2, 2, 2, 2, 2), list(1, 1, 1, 2, 2, 2)
	other, bare := list(2, 2, 2, 1, 1, 1), list(0, 0, 0, 0, 0, 0)
	mates := list(5, 4, 3, 2, 1, 0)
	all := []api.MaSet{
		example(), full(), setOf(list(none), list(0)), setOf(list(none), list(1)), setOf(list(none), list(2)), setOf(list(none), list(0), list(1), list(2), list(1)), setOf(list(1, 0), list(0, 0), list(0, 0)),
		setOf(list(1, 0), list(1, 0), list(0, 1)), setOf(list(1, 0), list(1, 2), list(2, 1)), setOf(alone(2), list(1, 2), list(2, 1)), setOf(list(1, 0), list(1, 2), list(2, 1), list(0, 0), list(0, 0)), setOf(list(1, 0), list(1, 1), list(0, 0), list(0, 0), list(1, 1)),
		// A pair is not cut if both go together.
		setOf(list(1, 0, none), list(0, 0, 1), list(1, 1, 0), list(1, 1, 0)), setOf(list(2, none, 0), list(0, 1, 0), list(1, 0, 1), list(1, 0, 0), list(0, 0, 1)),
		setOf(list(1, 0, 3, 2), list(0, 0, 1, 1), list(1, 2, 0, 0), list(1, 1, 0, 0), list(0, 0, 0, 0)),
		// The leaf of the other kind is left out.
		setOf(list(1, 0), list(1, 2), list(0, 1)), setOf(list(1, 0), list(2, 2), list(1, 0), list(0, 1)), setOf(alone(3), list(1, 1, 2), list(0, 0, 1)),
	}
	for _, m := range [][]int{mates, alone(6), list(1, 0, 3, 2, 5, 4), list(none, none, 4, none, 2, none)} {
		all = append(all, setOf(m, one, one, one, one), setOf(m, two, one, one, two), setOf(m, three, other, three, other), setOf(m, three, other, bare, bare), setOf(m, bare, bare, bare, bare), setOf(m, two, two, bare, bare), setOf(m, one, bare), setOf(m, three), setOf(m, one), setOf(m, bare))
		all = append(all, setOf(m, list(1, 2, 1, 1, 2, 1), list(2, 1, 2, 1, 2, 2), two, one), setOf(m, list(1, 0, 1, 0, 1, 0), list(0, 1, 0, 1, 0, 1), list(1, 1, 0, 0, 1, 1), list(0, 0, 1, 1, 0, 0)))
	}
	for _, price := range list(0, 1, 999, api.MaxMaPrice) {
		for _, share := range list(0, 1, 500, 999, api.MaxMaShare) {
			s := setOf(list(1, 0, none), list(0, 1, 2), list(0, 0, 0), list(1, 1, 2), list(2, 2, 2))
			s.Price, s.Leaves[0].Share, s.Leaves[1].Share, s.Leaves[2].Share = price, share, share, share
			all = append(all, s)
		}
	}
	return all
}

// sets are sets without an error, always the same ones.
var sets = sync.OnceValue(func() []api.MaSet {
	r := seed(11)
	all := specialSets()
	for i := range 2000 {
		leaves, copies := 1+r.Intn(api.MaxMaLeaves), 1+r.Intn(api.MaxMaCopies)
		if i%3 == 0 {
			leaves, copies = api.MaxMaLeaves, api.MaxMaCopies
		}
		all = append(all, someSet(r, leaves, copies))
		if i%5 == 0 {
			all = append(all, mixedSet(r, leaves, copies))
		}
	}
	return all
})

// someTall is how tall a leaf is seen to be: about as tall as others, or anything.
func someTall(r *rand.Rand, about int) api.Span {
	if r.Intn(8) == 0 {
		lo := 1 + r.Intn(api.MaxMaTall)
		return span(lo, lo+r.Intn(api.MaxMaTall-lo+1))
	}
	lo := max(1, about-r.Intn(6))
	return span(lo, min(api.MaxMaTall, lo+r.Intn(6)))
}

// someHand is a copy in the hand of so many leaves.
func someHand(r *rand.Rand, leaves int) api.MaHand {
	about := oneOf(r, 1, 3, 1+r.Intn(api.MaxMaTall), api.MaxMaTall)
	wide, known := r.Intn(10), 1+r.Intn(10)
	var h api.MaHand
	for range leaves {
		x := api.MaSeen{Tall: someTall(r, min(api.MaxMaTall, about+r.Intn(wide+1)))}
		if r.Intn(known) > 0 {
			x.Kind = oneOf(r, 1, 1, 2)
		}
		h.Leaves = append(h.Leaves, x)
	}
	return h
}

// specialHands are copies in the hand at the limits.
func specialHands() []api.MaHand {
	var apart, mixed, chained api.MaHand
	for i := range api.MaxMaSeen {
		apart.Leaves = append(apart.Leaves, seen(0, 10+i, 10+i))
		mixed.Leaves = append(mixed.Leaves, seen(1+i%2, 10, 20))
		chained.Leaves = append(chained.Leaves, seen(0, 10+i, 11+i))
	}
	unknown := handOf(slices.Repeat([]api.MaSeen{seen(0, 1, api.MaxMaTall)}, api.MaxMaSeen)...)
	return []api.MaHand{
		inHand(), fullHand(), apart, mixed, chained, unknown, handOf(seen(0, 1, 1)), handOf(seen(2, api.MaxMaTall, api.MaxMaTall)), handOf(seen(1, 1, 1), seen(2, 1, 1)), handOf(seen(1, 1, 1), seen(1, api.MaxMaTall, api.MaxMaTall)), handOf(seen(1, 1, 1), seen(0, 1, 1), seen(2, 1, 1)),
		handOf(seen(1, 1, 2), seen(0, 2, 3), seen(1, 3, 4)), handOf(seen(0, 1, 2), seen(0, 3, 4), seen(0, 2, 3)), handOf(seen(2, 5, 9), seen(1, 1, 5), seen(0, 9, 9), seen(0, 1, 1)),
	}
}

// hands are copies in the hand without an error, always the same ones.
var hands = sync.OnceValue(func() []api.MaHand {
	r := seed(1108)
	all := specialHands()
	for i := range 2000 {
		leaves := 1 + r.Intn(api.MaxMaSeen)
		if i%3 == 0 {
			leaves = api.MaxMaSeen
		}
		all = append(all, someHand(r, leaves))
	}
	return all
})

// answers are what is told of each set, asked once for all tests.
var answers = sync.OnceValue(func() []told {
	return inAll(len(sets()), func(i int) told { return tell(sets()[i]) })
})

// handAnswers are what is told of each copy in the hand, asked once for all tests.
var handAnswers = sync.OnceValue(func() []toldHand {
	return inAll(len(hands()), func(i int) toldHand { return tellHand(hands()[i]) })
})

// asks goes through all sets, and what is told of each.
func asks(visit func(s api.MaSet, x told)) {
	for i, s := range sets() {
		visit(s, answers()[i])
	}
}

// asksHand goes through all copies in the hand, and what is told of each.
func asksHand(visit func(h api.MaHand, x toldHand)) {
	for i, h := range hands() {
		visit(h, handAnswers()[i])
	}
}
