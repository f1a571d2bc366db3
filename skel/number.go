package skel

import (
	"iter"
	"slices"

	"duodecimo/pick"
)

// numbers has the number of each forme: that of its skeleton, or that of its press.
type numbers [maxFormes]int

// rule says of so many formes for each one which others must have the same number, and which must not.
type rule struct {
	formes      int
	same, apart sets
}

// skeletons returns the rule of skeletons.
func (j job) skeletons() rule { return rule{len(j.Formes), j.groups, j.stands} }

// presses returns the rule of presses.
func (j job) presses() rule { return rule{len(j.Formes), sets{}, printing().together(j.Formes)} }

// all yields, in their order, all numbers that the rule allows. There are some, unless formes must have both the same number and different ones.
func (r rule) all() iter.Seq[numbers] {
	return func(yield func(numbers) bool) {
		var extend func(n numbers, forme, many int) bool
		extend = func(n numbers, forme, many int) bool {
			if forme == r.formes {
				return yield(n)
			}
		candidates:
			for number := range many + 1 {
				for before, has := range n[:forme] {
					if has == number && r.apart[forme].Has(before) || has != number && r.same[forme].Has(before) {
						continue candidates
					}
				}
				n[forme] = number
				if !extend(n, forme+1, max(many, number+1)) {
					return false
				}
			}
			return true
		}
		extend(numbers{}, 0, 0)
	}
}

// many returns how many different numbers the formes have.
func (r rule) many(n numbers) int {
	many := 0
	for _, number := range n[:r.formes] {
		many = max(many, number+1)
	}
	return many
}

// fewer reports whether there are fewer of some numbers than of others.
func (r rule) fewer(n, others numbers) bool { return r.many(n) < r.many(others) }

// first returns the first numbers of which there are fewest.
func (r rule) first() numbers {
	n, _ := pick.Best(r.all(), r.fewer)
	return n
}

// need returns how few numbers there can be.
func (r rule) need() int { return r.many(r.first()) }

// told returns the first numbers of which there are fewest, forme by forme, and how many there are.
func (r rule) told() ([]int, int) {
	n := r.first()
	return slices.Clone(n[:r.formes]), r.many(n)
}

// fewest returns, in their order, all numbers of which there are fewest.
func (r rule) fewest() []numbers {
	need := r.need()
	var list []numbers
	for n := range r.all() {
		if r.many(n) == need {
			list = append(list, n)
		}
	}
	return list
}
