package shelf

import (
	"iter"

	"duodecimo/api"
	"duodecimo/pick"
)

// trips yields, in their order, the trips of some books, each as heavy as can be carried at most; none, if one book alone is heavier.
func (v room) trips(books []int, carry int) iter.Seq[[]int] {
	return pick.Lists(len(books), func(list []int) []int {
		begun := 0
		var heavy [api.MaxSfList]int // by trips
		for i, trip := range list {
			begun = max(begun, trip+1)
			heavy[trip] += v.Books[books[i]].Heavy
		}
		next := v.Books[books[len(list)]]
		return pick.Where(begun+1, func(trip int) bool { return heavy[trip]+next.Heavy <= carry })
	})
}

// way returns the way of the trips of some books.
func (v room) way(books, trips []int) int {
	var on [api.MaxSfList]pick.Set // by trips, the shelves of their books
	for i, trip := range trips {
		on[trip] |= pick.One(v.Books[books[i]].Shelf)
	}
	way := 0
	for _, shelves := range on {
		away := 0
		for _, shelf := range shelves.List() {
			s := v.Shelves[shelf]
			away = max(away, s.Away)
			way += 2 * s.Climb
		}
		way += 2 * away
	}
	return way
}
