package shelf_test

import (
	"slices"

	"duodecimo/api"
)

// fitOn reports whether books fit on a shelf.
func fitOn(s api.SfShelf, books []api.SfBook) bool {
	wide := 0
	for _, b := range books {
		wide += b.Wide
		if b.High > s.High {
			return false
		}
	}
	return wide <= s.Wide
}

// arranged reports whether the definition says that books which get these shelves are arranged, word by word.
func arranged(shelves []api.SfShelf, books []api.SfBook, get []int) bool {
	if !inOrder(books) {
		return false
	}
	for i := range get {
		if i > 0 && get[i] < get[i-1] {
			return false
		}
	}
	for i, s := range shelves {
		var here []api.SfBook
		for k, b := range books {
			if get[k] == i {
				here = append(here, b)
			}
		}
		if !fitOn(s, here) {
			return false
		}
	}
	return true
}

// nothing is the index of no shelf, and of no book.
const nothing = -1

// movedOf is how many of some books are moved if they get these shelves; the further one is none of them.
func movedOf(books []api.SfBook, get []int, further int) int {
	moved := 0
	for i, b := range books {
		if i != further && get[i] != b.Shelf {
			moved++
		}
	}
	return moved
}

// shelvedOf are all lists of shelves by which books are arranged with none on the closed shelf, in their order.
func shelvedOf(shelves []api.SfShelf, books []api.SfBook, closed int) [][]int {
	var all [][]int
	for _, get := range allShelves()[len(books)][len(shelves)] {
		if !slices.Contains(get, closed) && arranged(shelves, books, get) {
			all = append(all, get)
		}
	}
	return all
}

// best are the first shelves by which the fewest books are moved.
func best(shelves []api.SfShelf, books []api.SfBook, closed, further int) shelved {
	x := shelved{e: api.ErrDown}
	for _, get := range shelvedOf(shelves, books, closed) {
		if moved := movedOf(books, get, further); x.e != api.OK || moved < x.moved {
			x = shelved{nil, get, moved, api.OK}
		}
	}
	return x
}

// putOf is what Put must say.
func putOf(r api.SfRoom, b api.SfBook) shelved {
	x := shelved{books: []int{0}}
	switch {
	case !inOrder(r.Books):
		x.e = api.ErrArg
		return x
	case len(r.Books) == api.MaxSfBooks:
		x.e = api.ErrLong
		return x
	}
	s, at := with(r, b)
	x = best(s.Shelves, s.Books, nothing, at)
	if x.e != api.OK {
		at = 0
	}
	x.books = []int{at}
	return x
}

// fitsOf is what Fits must say.
func fitsOf(r api.SfRoom, b api.SfBook) standable {
	if !inOrder(r.Books) {
		return standable{nil, api.ErrArg}
	}
	var x standable
	for i := range r.Shelves {
		s, _ := with(r, on(b, i))
		var get []int
		for _, b := range s.Books {
			get = append(get, b.Shelf)
		}
		if arranged(s.Shelves, s.Books, get) {
			x.shelves = append(x.shelves, i)
		}
	}
	return x
}

// arrangeOf is what Arrange must say.
func arrangeOf(r api.SfRoom) shelved {
	order := sorted(r.Books)
	x := best(r.Shelves, taken(r.Books, order), nothing, nothing)
	if x.e == api.OK {
		x.books = order
	}
	return x
}

// clearOf is what Clear must say.
func clearOf(r api.SfRoom, closed int) shelved {
	if !inOrder(r.Books) {
		return shelved{e: api.ErrArg}
	}
	return best(r.Shelves, r.Books, closed, nothing)
}

// astrayOf is what Astray must say.
func astrayOf(r api.SfRoom) []int {
	for _, some := range subsets()[len(r.Books)] {
		if inOrder(without(r.Books, some)) {
			return some
		}
	}
	return nil
}

// spareOf is what Spare must say.
func spareOf(r api.SfRoom) []int {
	spare := make([]int, len(r.Shelves))
	for i, s := range r.Shelves {
		spare[i] = s.Wide
	}
	for _, b := range r.Books {
		spare[b.Shelf] -= b.Wide
	}
	return spare
}

// carried are how heavy the books of each trip are together.
func carried(r api.SfRoom, w walk, trips []int) []int {
	heavy := make([]int, len(trips))
	for i, trip := range trips {
		heavy[trip] += r.Books[w.books[i]].Heavy
	}
	return heavy
}

// wayOf is the way of trips.
func wayOf(r api.SfRoom, w walk, trips []int) int {
	way := 0
	for trip := range trips {
		away := 0
		climbed := map[int]bool{} // by shelves
		for i, other := range trips {
			if other != trip {
				continue
			}
			on := r.Books[w.books[i]].Shelf
			away = max(away, r.Shelves[on].Away)
			if !climbed[on] {
				climbed[on] = true
				way += 2 * r.Shelves[on].Climb
			}
		}
		way += 2 * away
	}
	return way
}

// walkOf is what Walk must say.
func walkOf(r api.SfRoom, w walk) fetched {
	x := fetched{e: api.ErrDown}
	for _, trips := range numberings()[len(w.books)] {
		if slices.ContainsFunc(carried(r, w, trips), func(heavy int) bool { return heavy > w.carry }) {
			continue
		}
		if way := wayOf(r, w, trips); x.e != api.OK || way < x.way {
			x = fetched{trips, way, api.OK}
		}
	}
	return x
}

// modelled is what must be told of a question.
func modelled(q question) told {
	x := told{astray: astrayOf(q.SfRoom), spare: spareOf(q.SfRoom), arrange: arrangeOf(q.SfRoom)}
	for _, b := range q.further {
		x.fits = append(x.fits, fitsOf(q.SfRoom, b))
		x.puts = append(x.puts, putOf(q.SfRoom, b))
	}
	for i := range q.Shelves {
		x.clears = append(x.clears, clearOf(q.SfRoom, i))
	}
	for _, w := range q.walks {
		x.walks = append(x.walks, walkOf(q.SfRoom, w))
	}
	return x
}
