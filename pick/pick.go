// Package pick contains what the layers use to go through several things that can be so, and to pick the best of them, or what they have in common: lists, orders, small sets, and which of them comes first.
package pick

import (
	"iter"
	"math/bits"
	"slices"
)

// Set is a set of numbers from 0 to 63, with a bit for each.
type Set uint64

// All returns the set of the first so many numbers.
func All(many int) Set { return 1<<many - 1 }

// One returns the set of one number.
func One(n int) Set { return 1 << n }

// Of returns the set of some numbers.
func Of(numbers ...int) Set {
	var s Set
	for _, n := range numbers {
		s |= One(n)
	}
	return s
}

// Has reports whether a number is in the set.
func (s Set) Has(n int) bool { return s>>n&1 == 1 }

// Least returns the least number of a set that has one.
func (s Set) Least() int { return bits.TrailingZeros64(uint64(s)) }

// Greatest returns the greatest number of a set that has one.
func (s Set) Greatest() int { return bits.Len64(uint64(s)) - 1 }

// List returns the numbers of the set, ascending.
func (s Set) List() []int {
	var list []int
	for s != 0 {
		list = append(list, s.Least())
		s &= s - 1
	}
	return list
}

// Ahead reports whether the set has fewer numbers than another one, or as many and comes first, both compared as lists.
func (s Set) Ahead(other Set) bool {
	many, others := bits.OnesCount64(uint64(s)), bits.OnesCount64(uint64(other))
	if many != others {
		return many < others
	}
	// The first place at which the lists differ is where one of them has the least number that just one set has.
	differing := s ^ other
	return s&differing&-differing != 0
}

// Best returns the first one of things that no other one is ahead of, and whether there is a thing at all.
func Best[T any](things iter.Seq[T], ahead func(a, b T) bool) (T, bool) {
	var best T
	found := false
	for x := range things {
		if !found || ahead(x, best) {
			best, found = x, true
		}
	}
	return best, found
}

// Fewest returns the fewest of the first so many numbers for which something holds, of several sets of them the first one as a list, and whether there are any for which it does. What holds for a set must hold for all sets that contain it, too.
func Fewest(many int, holds func(Set) bool) (Set, bool) {
	return Best(smallest(many, holds), Set.Ahead)
}

// smallest yields the sets of the first so many numbers for which something holds, and without any one of their numbers does not.
func smallest(many int, holds func(Set) bool) iter.Seq[Set] {
	return func(yield func(Set) bool) {
		held := map[Set]bool{} // by the sets that were met
	sets:
		for some := range All(many) + 1 {
			for _, n := range some.List() {
				if held[some&^One(n)] {
					held[some] = true
					continue sets
				}
			}
			held[some] = holds(some)
			if held[some] && !yield(some) {
				return
			}
		}
	}
}

// Where returns the numbers below many for which something holds, ascending.
func Where(many int, holds func(int) bool) []int {
	var list []int
	for n := range many {
		if holds(n) {
			list = append(list, n)
		}
	}
	return list
}

// Sure returns the numbers below many that all things have, and those that some thing has, both ascending. If there is no thing, all of them have each number.
func Sure[T any](things iter.Seq[T], many int, has func(T, int) bool) (all, some []int) {
	asked := 0
	having := make([]int, many)
	for x := range things {
		asked++
		for n := range many {
			if has(x, n) {
				having[n]++
			}
		}
	}
	all = Where(many, func(n int) bool { return having[n] == asked })
	some = Where(many, func(n int) bool { return having[n] > 0 })
	return all, some
}

// Lists yields, in their order, all lists of so many numbers, each number one of those that can follow the ones ahead of it.
func Lists(many int, following func(list []int) []int) iter.Seq[[]int] {
	return func(yield func([]int) bool) {
		var extend func(list []int) bool
		extend = func(list []int) bool {
			if len(list) == many {
				return yield(slices.Clone(list))
			}
			for _, n := range following(list) {
				if !extend(append(list, n)) {
					return false
				}
			}
			return true
		}
		extend(make([]int, 0, many))
	}
}

// OrdersOf yields, in their order, all orders of some of the first so many numbers.
func OrdersOf(some, many int) iter.Seq[[]int] {
	return Lists(some, func(list []int) []int {
		return Where(many, func(n int) bool { return !slices.Contains(list, n) })
	})
}

// Orders yields, in their order, all orders of the first so many numbers.
func Orders(many int) iter.Seq[[]int] { return OrdersOf(many, many) }
