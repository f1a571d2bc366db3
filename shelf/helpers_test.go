package shelf_test

import (
	"fmt"
	"math"
	"math/rand"
	"slices"
	"sync"
	"testing"

	"duodecimo/api"
	"duodecimo/shelf"
)

// The classes of the chapter's example.
const (
	hist = 0
	art  = 1
)

func mark(class, number int, suffix string) api.SfMark {
	return api.SfMark{Class: class, Number: number, Suffix: suffix}
}

func book(m api.SfMark, wide, high, heavy, on int) api.SfBook {
	return api.SfBook{Mark: m, Wide: wide, High: high, Heavy: heavy, Shelf: on}
}

func board(away, climb, wide, high int) api.SfShelf {
	return api.SfShelf{Away: away, Climb: climb, Wide: wide, High: high}
}

// example is R of the chapter's examples.
func example() api.SfRoom {
	return api.SfRoom{
		Classes: []string{"hist", "art"},
		Shelves: []api.SfShelf{board(10, 0, 100, 300), board(10, 3, 60, 250), board(25, 0, 120, 400)},
		Books: []api.SfBook{
			book(mark(hist, 2, ""), 40, 280, 5, 0), book(mark(hist, 10, ""), 50, 200, 4, 0),
			book(mark(hist, 10, "a"), 30, 240, 3, 1), book(mark(art, 1, ""), 20, 200, 2, 1), book(mark(art, 3, "b"), 60, 380, 9, 2),
		},
	}
}

// but is the example after a change.
func but(change func(*api.SfRoom)) api.SfRoom {
	r := example()
	change(&r)
	return r
}

// exchanged is the example with the marks of hist.10 and art.1 exchanged.
func exchanged() api.SfRoom {
	return but(func(r *api.SfRoom) { r.Books[1].Mark, r.Books[3].Mark = r.Books[3].Mark, r.Books[1].Mark })
}

// plain is a room without books, with shelves of these widths; all are 100 high.
func plain(wide ...int) api.SfRoom {
	r := api.SfRoom{Classes: []string{"a"}}
	for _, w := range wide {
		r.Shelves = append(r.Shelves, board(1, 0, w, 100))
	}
	return r
}

// thin is a book a.n that is 1 wide, high and heavy, on a shelf.
func thin(n, on int) api.SfBook { return book(mark(0, n, ""), 1, 1, 1, on) }

// holding is a room with some more books.
func holding(r api.SfRoom, books ...api.SfBook) api.SfRoom {
	r = cloned(r)
	r.Books = append(r.Books, books...)
	return r
}

// full is a room with as many classes, shelves and books as there can be, in order, all on the first shelf, which has just room for one more.
func full() api.SfRoom {
	r := plain(api.MaxSfBooks+1, 1, 2, api.MaxSfBooks+1)
	r.Classes = []string{"a", "b", "c", "d", "e", "f"}
	for n := range api.MaxSfBooks {
		r.Books = append(r.Books, thin(n+1, 0))
	}
	return r
}

// cloned is a room that shares no memory with the other one.
func cloned(r api.SfRoom) api.SfRoom {
	r.Classes, r.Shelves, r.Books = slices.Clone(r.Classes), slices.Clone(r.Shelves), slices.Clone(r.Books)
	return r
}

// same reports whether two rooms are the same.
func same(r, s api.SfRoom) bool {
	return slices.Equal(r.Classes, s.Classes) && slices.Equal(r.Shelves, s.Shelves) && slices.Equal(r.Books, s.Books)
}

// suffixes are all that a mark can have: shorter ones first, those that are as long by the alphabet.
var suffixes = sync.OnceValue(func() []string {
	const letters = "abcdefghijklmnopqrstuvwxyz"
	all := []string{""}
	for _, c := range letters {
		all = append(all, string(c))
	}
	for _, c := range letters {
		for _, d := range letters {
			all = append(all, string(c)+string(d))
		}
	}
	return all
})

// ranks are where suffixes come among all of them.
var ranks = sync.OnceValue(func() map[string]int {
	all := map[string]int{}
	for i, s := range suffixes() {
		all[s] = i
	}
	return all
})

// comes reports whether a mark comes before another one.
func comes(a, b api.SfMark) bool {
	switch {
	case a.Class != b.Class:
		return a.Class < b.Class
	case a.Number != b.Number:
		return a.Number < b.Number
	}
	return ranks()[a.Suffix] < ranks()[b.Suffix]
}

// inOrder reports whether each book's mark comes behind that of the book before it.
func inOrder(books []api.SfBook) bool {
	for i, b := range books {
		if i > 0 && !comes(books[i-1].Mark, b.Mark) {
			return false
		}
	}
	return true
}

// sorted are the indices of books in order.
func sorted(books []api.SfBook) []int {
	order := make([]int, len(books))
	for i, b := range books {
		before := 0
		for _, c := range books {
			if comes(c.Mark, b.Mark) {
				before++
			}
		}
		order[before] = i
	}
	return order
}

// taken are some of a list of books, by their indices.
func taken(books []api.SfBook, indices []int) []api.SfBook {
	var list []api.SfBook
	for _, i := range indices {
		list = append(list, books[i])
	}
	return list
}

// without is a list without some elements, given by their indices.
func without[T any](list []T, indices []int) []T {
	var left []T
	for i, x := range list {
		if !slices.Contains(indices, i) {
			left = append(left, x)
		}
	}
	return left
}

// with is a room with a further book, put in where it comes by its mark, and its index.
func with(r api.SfRoom, b api.SfBook) (api.SfRoom, int) {
	at := 0
	for at < len(r.Books) && comes(r.Books[at].Mark, b.Mark) {
		at++
	}
	r = cloned(r)
	r.Books = slices.Insert(r.Books, at, b)
	return r, at
}

// on is a book that stands on another shelf.
func on(b api.SfBook, s int) api.SfBook {
	b.Shelf = s
	return b
}

// standing is a room in which books stand in this order, on these shelves.
func standing(r api.SfRoom, books []api.SfBook, shelves []int) api.SfRoom {
	r.Books = slices.Clone(books)
	for i, s := range shelves {
		r.Books[i].Shelf = s
	}
	return r
}

// lists are all lists of so many numbers below n that are so with each of their beginnings, in their order.
func lists(many, n int, isSo func([]int) bool) [][]int {
	all := [][]int{{}}
	for range many {
		var longer [][]int
		for _, l := range all {
			for i := range n {
				if next := append(slices.Clone(l), i); isSo(next) {
					longer = append(longer, next)
				}
			}
		}
		all = longer
	}
	return all
}

// allShelves are, by how many books and shelves there are, all lists of shelves that books can get, none below that of the book before it.
var allShelves = sync.OnceValue(func() [][][][]int {
	var all [][][][]int
	for books := range api.MaxSfBooks + 2 {
		all = append(all, nil)
		for n := range api.MaxSfShelves + 1 {
			all[books] = append(all[books], lists(books, n, func(l []int) bool { return len(l) < 2 || l[len(l)-2] <= l[len(l)-1] }))
		}
	}
	return all
})

// subsets are, by how many books there are, all lists of some of them, ascending, the shortest first, of those that are as long the first ones compared number by number.
var subsets = sync.OnceValue(func() [][][]int {
	var all [][][]int
	for n := range api.MaxSfBooks + 1 {
		all = append(all, nil)
		for some := range n + 1 {
			all[n] = append(all[n], lists(some, n, func(l []int) bool { return len(l) < 2 || l[len(l)-2] < l[len(l)-1] })...)
		}
	}
	return all
})

// numberings are, by how many books are fetched, all ways to number their trips.
var numberings = sync.OnceValue(func() [][][]int {
	var all [][][]int
	for n := range api.MaxSfList + 1 {
		all = append(all, lists(n, n, func(l []int) bool {
			before, last := l[:len(l)-1], l[len(l)-1]
			least := 0
			for slices.Contains(before, least) {
				least++
			}
			return slices.Contains(before, last) || last == least
		}))
	}
	return all
})

// walk is what is asked of Walk.
type walk struct {
	books []int
	carry int
}

// question is a room, and what is asked about it: further books, and walks.
type question struct {
	api.SfRoom
	further []api.SfBook
	walks   []walk
}

// shelved is what Put, Arrange or Clear say: books, or the index of one, the shelves that they get, how many are moved, and the error.
type shelved struct {
	books, shelves []int
	moved          int
	e              api.Errno
}

// standable is what Fits says.
type standable struct {
	shelves []int
	e       api.Errno
}

// fetched is what Walk says.
type fetched struct {
	trips []int
	way   int
	e     api.Errno
}

// told is what all functions but Check, Write, Read and Before say of a question.
type told struct {
	astray, spare []int
	fits          []standable // of all further books
	puts          []shelved   // of all further books
	arrange       shelved
	clears        []shelved // of all shelves
	walks         []fetched
	errors        []api.Errno // that must not be there
}

// tell asks all functions but Check, Write, Read and Before.
func tell(q question) told {
	var x told
	expect := func(e, want api.Errno) {
		if e != want {
			x.errors = append(x.errors, e)
		}
	}
	var e api.Errno
	x.astray, e = shelf.Astray(q.SfRoom)
	expect(e, api.OK)
	x.spare, e = shelf.Spare(q.SfRoom)
	expect(e, api.OK)
	for _, b := range q.further {
		fits, e := shelf.Fits(q.SfRoom, b)
		x.fits = append(x.fits, standable{fits, e})
		at, moved, shelves, e := shelf.Put(q.SfRoom, b)
		x.puts = append(x.puts, shelved{[]int{at}, shelves, moved, e})
	}
	x.arrange.books, x.arrange.shelves, x.arrange.moved, x.arrange.e = shelf.Arrange(q.SfRoom)
	for i := range q.Shelves {
		shelves, moved, e := shelf.Clear(q.SfRoom, i)
		x.clears = append(x.clears, shelved{nil, shelves, moved, e})
	}
	for _, w := range q.walks {
		trips, way, e := shelf.Walk(q.SfRoom, w.books, w.carry)
		x.walks = append(x.walks, fetched{trips, way, e})
	}
	return x
}

// differ says in what two answers differ.
func differ(x, y told) string {
	for _, c := range []struct {
		what string
		x, y any
	}{
		{"errors", x.errors, y.errors}, {"Astray", x.astray, y.astray}, {"Spare", x.spare, y.spare}, {"Fits", x.fits, y.fits},
		{"Put", x.puts, y.puts}, {"Arrange", x.arrange, y.arrange}, {"Clear", x.clears, y.clears}, {"Walk", x.walks, y.walks},
	} {
		// A nil list and an empty one are printed the same.
		if fmt.Sprint(c.x) != fmt.Sprint(c.y) {
			return c.what
		}
	}
	return ""
}

// inAll makes what is said of each of so many things, some at a time.
func inAll[T any](many int, say func(int) T) []T {
	list := make([]T, many)
	var wait sync.WaitGroup
	places := make(chan bool, 16)
	for i := range many {
		places <- true
		wait.Go(func() {
			list[i] = say(i)
			<-places
		})
	}
	wait.Wait()
	return list
}

// expectList checks a list of numbers that was told without an error.
func expectList(t *testing.T, what string, got []int, e api.Errno, want ...int) {
	t.Helper()
	if !slices.Equal(got, want) || e != api.OK {
		t.Errorf("%s = %v, %d, not %v", what, got, e, want)
	}
}

// numbers are ints far beyond all limits, and about some.
func numbers(limits ...int) []int {
	list := []int{math.MinInt, math.MinInt + 1, -1, math.MaxInt - 1, math.MaxInt}
	for _, n := range limits {
		list = append(list, n-1, n, n+1)
	}
	return list
}

// seed is from where random numbers of a test start.
func seed(n int64) *rand.Rand { return rand.New(rand.NewSource(n)) }

// oneOf is one of some things.
func oneOf[T any](r *rand.Rand, things ...T) T { return things[r.Intn(len(things))] }
