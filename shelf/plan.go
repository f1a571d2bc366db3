package shelf

import (
	"iter"
	"slices"

	"duodecimo/api"
	"duodecimo/pick"
)

// nowhere is the shelf of a book that has not stood on any: it is not moved, whichever one it gets.
const nowhere = -1

// places are the shelves that books get, or on which they stand. There can be one book more than in a room, as it is asked where that one fits.
type places [api.MaxSfBooks + 1]int

// stand returns the shelves on which the books stand.
func (v room) stand() places {
	var p places
	for i, b := range v.Books {
		p[i] = b.Shelf
	}
	return p
}

// plan is how books are arranged: which shelves they get, and how many are moved.
type plan struct {
	places places
	moved  int
}

// ahead reports whether by a plan fewer books are moved than by another one, or as many, and its shelves come first.
func (p plan) ahead(other plan) bool {
	if p.moved != other.moved {
		return p.moved < other.moved
	}
	return slices.Compare(p.places[:], other.places[:]) < 0
}

// rest is the books from one on, which get shelves from one on.
type rest struct{ book, shelf int }

// answer is the best plan for a rest, if there is one.
type answer struct {
	plan
	found bool
}

// best returns the first one of the plans by which the fewest of the books, which are in order, are moved, or ErrDown if they cannot be arranged.
func (v room) best() (plan, api.Errno) {
	known := map[rest]answer{}
	var ask func(rest) answer
	ask = func(x rest) answer {
		a, is := known[x]
		if !is {
			a.plan, a.found = pick.Best(v.plans(x, ask), plan.ahead)
			known[x] = a
		}
		return a
	}
	a := ask(rest{})
	if !a.found {
		return plan{}, api.ErrDown
	}
	return a.plan, api.OK
}

// arranged returns the shelves that books get by the best plan, and how many are moved, or ErrDown if they cannot be arranged.
func (v room) arranged() (shelves []int, moved int, e api.Errno) {
	p, e := v.best()
	if e != api.OK {
		return nil, 0, e
	}
	shelves = make([]int, len(v.Books))
	copy(shelves, p.places[:])
	return shelves, p.moved, api.OK
}

// plans yields the best one of the plans for a rest with each run of books, from its first one on, that can get the same shelf; what is best for those behind is asked.
func (v room) plans(x rest, ask func(rest) answer) iter.Seq[plan] {
	return func(yield func(plan) bool) {
		if x.book == len(v.Books) {
			yield(plan{})
			return
		}
	shelves:
		for shelf := x.shelf; shelf < len(v.Shelves); shelf++ {
			for end := x.book + 1; end <= len(v.Books); end++ {
				if !fit(v.Shelves[shelf], v.Books[x.book:end]) {
					continue shelves
				}
				behind := ask(rest{end, shelf + 1})
				if behind.found && !yield(v.give(behind.plan, x.book, end, shelf)) {
					return
				}
			}
		}
	}
}

// give returns a plan by which, besides, the books from one up to another one get a shelf.
func (v room) give(p plan, from, end, shelf int) plan {
	for i := from; i < end; i++ {
		p.places[i] = shelf
		if was := v.Books[i].Shelf; was != shelf && was != nowhere {
			p.moved++
		}
	}
	return p
}
