package shelf

import (
	"slices"

	"duodecimo/api"
	"duodecimo/check"
	"duodecimo/pick"
	"duodecimo/quire"
)

// The parts of a room in which Check finds an error.
const (
	partNone    = 0
	partClasses = 1
	partShelves = 2
	partBooks   = 3
	partFit     = 4
)

// classError returns a function that is given one class after the other, and returns the error of each.
func classError() func(int, string) api.Errno {
	nameError := check.Names(quire.Name)
	return func(_ int, name string) api.Errno { return nameError(name) }
}

// shelfError returns the error of a shelf.
func shelfError(_ int, s api.SfShelf) api.Errno {
	if !check.Within(0, api.MaxSfAway, s.Away, s.Climb) || !check.Within(1, api.MaxSfSize, s.Wide, s.High) {
		return api.ErrRange
	}
	return api.OK
}

// bookError returns the error of a book beside others in a room with some classes, wherever it stands.
func bookError(classes []string, others []api.SfBook, b api.SfBook) api.Errno {
	if e := markError(classes, b.Mark); e != api.OK {
		return e
	}
	switch {
	case !check.Within(1, api.MaxSfSize, b.Wide, b.High) || !check.Within(1, api.MaxSfHeavy, b.Heavy):
		return api.ErrRange
	case slices.ContainsFunc(others, func(o api.SfBook) bool { return o.Mark == b.Mark }):
		return api.ErrTwice
	}
	return api.OK
}

// standError returns a function that returns the error of a book of a room, whose index is given, too.
func standError(r api.SfRoom) func(int, api.SfBook) api.Errno {
	return func(i int, b api.SfBook) api.Errno {
		if e := bookError(r.Classes, r.Books[:i], b); e != api.OK {
			return e
		}
		switch {
		case !check.Within(0, len(r.Shelves)-1, b.Shelf):
			return api.ErrNone
		case i > 0 && b.Shelf < r.Books[i-1].Shelf:
			return api.ErrArg
		}
		return api.OK
	}
}

// fitError returns a function that returns ErrDown if on a shelf, whose index is given, too, some books do not fit that stand on it.
func fitError(books []api.SfBook) func(int, api.SfShelf) api.Errno {
	return func(i int, s api.SfShelf) api.Errno {
		if !fit(s, standing(books, i)) {
			return api.ErrDown
		}
		return api.OK
	}
}

// standing returns those of some books that stand on a shelf.
func standing(books []api.SfBook, shelf int) []api.SfBook {
	return slices.DeleteFunc(slices.Clone(books), func(b api.SfBook) bool { return b.Shelf != shelf })
}

// wide returns how wide books are together.
func wide(books []api.SfBook) int {
	all := 0
	for _, b := range books {
		all += b.Wide
	}
	return all
}

// fit reports whether books fit on a shelf.
func fit(s api.SfShelf, books []api.SfBook) bool {
	high := slices.ContainsFunc(books, func(b api.SfBook) bool { return b.High > s.High })
	return !high && wide(books) <= s.Wide
}

// room is a room that is looked at. Unless something else is said, it has no error.
type room struct{ api.SfRoom }

// open returns the room to look at, or its error.
func open(r api.SfRoom) (room, api.Errno) {
	if _, _, e := Check(r); e != api.OK {
		return room{}, e
	}
	return room{r}, api.OK
}

// openWith returns the room to look at; or its error, or that of a further book.
func openWith(r api.SfRoom, b api.SfBook) (room, api.Errno) {
	v, e := open(r)
	if e != api.OK {
		return room{}, e
	}
	if e := bookError(v.Classes, v.Books, b); e != api.OK {
		return room{}, e
	}
	if !ordered(v.Books) {
		return room{}, api.ErrArg
	}
	return v, api.OK
}

// byMark returns -1 if a book comes before another one, and 1 if it comes behind it.
func byMark(a, b api.SfBook) int { return compare(a.Mark, b.Mark) }

// ordered reports whether books are in order.
func ordered(books []api.SfBook) bool { return slices.IsSortedFunc(books, byMark) }

// without returns the books without some of them.
func (v room) without(some pick.Set) []api.SfBook {
	var books []api.SfBook
	for i, b := range v.Books {
		if !some.Has(i) {
			books = append(books, b)
		}
	}
	return books
}

// with returns the index that a further book has among the others, which are in order, and the room with it there. This room can have one book too many, and one shelf on which they do not fit.
func (v room) with(b api.SfBook) (int, room) {
	at, _ := slices.BinarySearchFunc(v.Books, b, byMark)
	v.Books = slices.Insert(slices.Clone(v.Books), at, b)
	return at, v
}

// closed returns the room with a shelf on which no book fits, also if some stand there.
func (v room) closed(shelf int) room {
	v.Shelves = slices.Clone(v.Shelves)
	v.Shelves[shelf].Wide = 0
	return v
}

// sorted returns the books in order, and the room with them so. Shelves of this room can be in any order.
func (v room) sorted() ([]int, room) {
	order := pick.Where(len(v.Books), func(int) bool { return true })
	slices.SortFunc(order, func(a, b int) int { return byMark(v.Books[a], v.Books[b]) })
	v.Books = slices.SortedFunc(slices.Values(v.Books), byMark)
	return order, v
}
