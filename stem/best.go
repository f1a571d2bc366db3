package stem

import (
	"iter"
	"slices"

	"duodecimo/api"
)

// costs are how many changes there are with each of several things that are possible: readings, or trees.
type costs[K comparable] struct {
	things  []K // in their order
	changes map[K]int
}

// costsOf asks of each thing how many changes there are with it.
func costsOf[K comparable](things iter.Seq[K], ask func(K) int) costs[K] {
	c := costs[K]{changes: map[K]int{}}
	for x := range things {
		if n := ask(x); n < never {
			c.things = append(c.things, x)
			c.changes[x] = n
		}
	}
	return c
}

// fewest returns the things with the fewest changes, in their order, and how many changes these are; nothing, if nothing is possible.
func (c costs[K]) fewest() ([]K, int) {
	fewest := never
	for _, x := range c.things {
		fewest = min(fewest, c.changes[x])
	}
	best := slices.DeleteFunc(c.things, func(x K) bool { return c.changes[x] > fewest })
	return best, fewest
}

// settled is a stem for which some tree is possible.
type settled struct {
	stem
	best   []tree // the best trees, in their order
	fewest int    // their changes
}

// openBest returns the stem to look at with its best trees; or its error, ErrNone if one of some editions is none, or ErrDown if no tree is possible.
func openBest(s api.SmStem, editions ...int) (settled, api.Errno) {
	l, e := open(s, editions...)
	if e != api.OK {
		return settled{}, e
	}
	best, fewest := costsOf(l.dated(), l.changes).fewest()
	if len(best) == 0 {
		return settled{}, api.ErrDown
	}
	return settled{l, best, fewest}, api.OK
}
