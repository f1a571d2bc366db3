// Package pick contains what the layers use to pick the best of several things: small sets, and which of them comes first.
package pick

import (
	"iter"
	"math/bits"
)

// Set is a set of numbers from 0 to 63, with a bit for each.
type Set uint64

// All returns the set of the first so many numbers.
func All(many int) Set { return 1<<many - 1 }

// One returns the set of one number.
func One(n int) Set { return 1 << n }

// Has reports whether a number is in the set.
func (s Set) Has(n int) bool { return s>>n&1 == 1 }

// Least returns the least number of a set that has one.
func (s Set) Least() int { return bits.TrailingZeros64(uint64(s)) }

// Greatest returns the greatest number of a set that has one.
func (s Set) Greatest() int { return bits.Len64(uint64(s)) - 1 }

// List returns the numbers of the set, ascending.
func (s Set) List() []int {
	var list []int
	for s != 0 {
		list = append(list, s.Least())
		s &= s - 1
	}
	return list
}

// Ahead reports whether the set has fewer numbers than another one, or as many and comes first, both compared as lists.
func (s Set) Ahead(other Set) bool {
	many, others := bits.OnesCount64(uint64(s)), bits.OnesCount64(uint64(other))
	if many != others {
		return many < others
	}
	// The first place at which the lists differ is where one of them has the least number that just one set has.
	differing := s ^ other
	return s&differing&-differing != 0
}

// Best returns the first one of things that no other one is ahead of, and whether there is a thing at all.
func Best[T any](things iter.Seq[T], ahead func(a, b T) bool) (T, bool) {
	var best T
	found := false
	for x := range things {
		if !found || ahead(x, best) {
			best, found = x, true
		}
	}
	return best, found
}
