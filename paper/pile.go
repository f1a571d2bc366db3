package paper

import (
	"cmp"
	"iter"

	"duodecimo/api"
	"duodecimo/pick"
)

// ends keeps the least and the greatest of the values that are added.
type ends[T cmp.Ordered] struct {
	least, greatest T
	some            bool // whether any was added
}

// add adds some values.
func (s *ends[T]) add(values ...T) {
	for _, v := range values {
		if !s.some {
			*s = ends[T]{least: v, greatest: v, some: true}
		}
		s.least, s.greatest = min(s.least, v), max(s.greatest, v)
	}
}

// span returns all numbers from the least to the greatest one.
func span(s ends[int]) api.Span { return api.Span{Lo: s.least, Hi: s.greatest} }

// places has the stocks of each place, from the top of the pile: those of the sheets of which one gathering was printed.
type places [api.MaxPpGatherings]pick.Set

// pile is what all piles with the same stocks of all places have in common.
type pile struct {
	places places
	sheets ends[int] // how many they have
	reams  ends[int] // of how many of their reams a sheet was used
}

// nextSheets returns a function that is given how many sheets the first reams have, and returns how many the next one can have.
func nextSheets(reams []api.PpReam) func(sheets []int) []int {
	return func(sheets []int) []int {
		next := reams[len(sheets)].Sheets
		var can []int
		for n := next.Lo; n <= next.Hi; n++ {
			can = append(can, n)
		}
		return can
	}
}

// enough yields how many sheets each ream can have, so that all together are enough.
func enough(c api.PpCase) iter.Seq[[]int] {
	return func(yield func([]int) bool) {
		for sheets := range pick.Lists(len(c.Reams), nextSheets(c.Reams)) {
			if sum(sheets) >= used(c) && !yield(sheets) {
				return
			}
		}
	}
}

// sum returns the sum of some numbers.
func sum(numbers []int) int {
	all := 0
	for _, n := range numbers {
		all += n
	}
	return all
}

// lay returns the stocks of each place, and of how many reams a sheet was used, if the reams have so many sheets.
func lay(c api.PpCase, sheets []int) (p places, reams int) {
	top := 0
	for i, ream := range c.Reams {
		bottom := top + sheets[i]
		if top < used(c) {
			reams++
		}
		for place := range c.Gatherings {
			if top < (place+1)*c.Run && place*c.Run < bottom {
				p[place] |= pick.One(ream.Stock)
			}
		}
		top = bottom
	}
	return p, reams
}

// pilesOf returns what piles of a case can have been.
func pilesOf(c api.PpCase) []pile {
	var piles []pile
	at := map[places]int{} // the index of the piles with these places
	for sheets := range enough(c) {
		p, reams := lay(c, sheets)
		i, known := at[p]
		if !known {
			i = len(piles)
			at[p] = i
			piles = append(piles, pile{places: p})
		}
		piles[i].sheets.add(sum(sheets))
		piles[i].reams.add(reams)
	}
	return piles
}

// printedOn returns all stocks of which a sheet was used.
func (p pile) printedOn() pick.Set {
	var all pick.Set
	for _, some := range p.places {
		all |= some
	}
	return all
}
