package shelf_test

import (
	"fmt"
	"math"
	"slices"
	"strings"
	"testing"

	"duodecimo/api"
	"duodecimo/shelf"
)

// checked is a room, and what Check returns.
type checked struct {
	r        api.SfRoom
	part, at int
	e        api.Errno
}

// A shelf and a book with all errors that one can have.
var (
	worstShelf = board(-1, -1, 0, 0)
	worstBook  = book(mark(-1, 0, "A"), 0, 0, 0, -1)
)

// classes is the example with other classes, and errors behind them.
func classes(names ...string) api.SfRoom {
	return but(func(r *api.SfRoom) { r.Classes, r.Shelves, r.Books = names, nil, []api.SfBook{worstBook} })
}

// boards is the example with other shelves, and errors behind them.
func boards(list ...api.SfShelf) api.SfRoom {
	return but(func(r *api.SfRoom) { r.Shelves, r.Books = list, []api.SfBook{worstBook} })
}

// books is the example with other books.
func books(list ...api.SfBook) api.SfRoom { return but(func(r *api.SfRoom) { r.Books = list }) }

// errorIf is one of two errors.
func errorIf(isSo bool, e, other api.Errno) api.Errno {
	if isSo {
		return e
	}
	return other
}

// checkedIf is a room without an error if this is so, otherwise one with this error.
func checkedIf(isSo bool, r api.SfRoom, part, at int, e api.Errno) checked {
	if isSo {
		return checked{r, 0, 0, api.OK}
	}
	return checked{r, part, at, e}
}

// checkedClasses are rooms with errors of classes; the next error is that of the shelves.
func checkedClasses() []checked {
	long := strings.Repeat("a", api.MaxName)
	return []checked{
		{api.SfRoom{}, 1, 0, api.ErrLong},
		{classes(), 1, 0, api.ErrLong},
		{classes("a", "b", "c", "d", "e", "f", "g"), 1, 0, api.ErrLong},
		{classes("", "", "", "", "", "", ""), 1, 0, api.ErrLong},
		{classes(make([]string, 1<<16)...), 1, 0, api.ErrLong},
		{classes("a", "b", "c", "d", "e", "f"), 2, 0, api.ErrLong},
		{classes("a"), 2, 0, api.ErrLong},
		{classes(long, "a.", "a..1", "a1"), 2, 0, api.ErrLong},
		{classes("a", "", "a"), 1, 1, api.ErrForm},
		{classes("a", "A", "a"), 1, 1, api.ErrForm},
		{classes("1a"), 1, 0, api.ErrForm},
		{classes(".a"), 1, 0, api.ErrForm},
		{classes("a b"), 1, 0, api.ErrForm},
		{classes("a\xff"), 1, 0, api.ErrForm},
		{classes("ä"), 1, 0, api.ErrForm},
		{classes(long, long+"a"), 1, 1, api.ErrForm},
		{classes("", ""), 1, 0, api.ErrForm},
		{classes("a", "b", "b", "", "a"), 1, 2, api.ErrTwice},
		{classes("a", "b", "c", "d", "e", "a"), 1, 5, api.ErrTwice},
	}
}

// checkedShelves are rooms with errors of shelves, and without.
func checkedShelves() []checked {
	good := board(0, 0, 1, 1)
	list := []checked{
		{boards(), 2, 0, api.ErrLong},
		{boards(good, good, good, good, good), 2, 0, api.ErrLong},
		{boards(worstShelf, good, good, good, good), 2, 0, api.ErrLong},
		{boards(make([]api.SfShelf, 1<<16)...), 2, 0, api.ErrLong},
		{boards(good, good, good, good), 3, 0, api.ErrNone},
		{boards(good, worstShelf, worstShelf), 2, 1, api.ErrRange},
		{boards(good, good, good, worstShelf), 2, 3, api.ErrRange},
		{boards(api.SfShelf{}), 2, 0, api.ErrRange},
		{boards(board(1000, 1000, 2000, 2000)), 3, 0, api.ErrNone},
	}
	for _, n := range numbers(0, 1, api.MaxSfAway, api.MaxSfSize) {
		far, large := n >= 0 && n <= api.MaxSfAway, n >= 1 && n <= api.MaxSfSize
		for at, s := range []api.SfShelf{board(n, 0, 1, 1), board(0, n, 1, 1), board(0, 0, n, 1), board(0, 0, 1, n)} {
			list = append(list, checkedIf(at < 2 && far || at >= 2 && large, api.SfRoom{Classes: []string{"a"}, Shelves: []api.SfShelf{good, s}}, 2, 1, api.ErrRange))
		}
	}
	return list
}

// checkedBooks are rooms with errors of books, and without.
func checkedBooks() []checked {
	a, b := book(mark(hist, 1, ""), 1, 1, 1, 0), book(mark(art, 1, "zz"), 1, 1, 1, 1)
	shelf := func(s int) api.SfBook { return on(b, s) }
	list := []checked{
		{books(), 0, 0, api.OK},
		{books(a, b), 0, 0, api.OK},
		{full(), 0, 0, api.OK},
		{huge(), 0, 0, api.OK},
		{holding(full(), b), 3, 0, api.ErrLong},
		{books(slices.Repeat([]api.SfBook{worstBook}, api.MaxSfBooks+1)...), 3, 0, api.ErrLong},
		{books(make([]api.SfBook, 1<<16)...), 3, 0, api.ErrLong},
		{books(a, worstBook, worstBook), 3, 1, api.ErrNone},
		{books(a, book(mark(2, 0, "A"), 0, 0, 0, -1), worstBook), 3, 1, api.ErrNone},
		{books(a, book(mark(hist, 0, "A"), 0, 0, 0, -1), worstBook), 3, 1, api.ErrRange},
		{books(a, book(mark(hist, 10000, "abc"), 0, 0, 0, -1)), 3, 1, api.ErrRange},
		{books(a, book(mark(hist, 1, "A"), 0, 0, 0, -1), worstBook), 3, 1, api.ErrForm},
		{books(book(mark(hist, 1, "abc"), 0, 0, 0, -1)), 3, 0, api.ErrForm},
		{books(a, book(mark(hist, 1, ""), 0, 1, 1, -1), worstBook), 3, 1, api.ErrRange},
		{books(a, book(mark(hist, 1, ""), 1, 0, 1, -1)), 3, 1, api.ErrRange},
		{books(a, book(mark(hist, 1, ""), 1, 1, 0, -1)), 3, 1, api.ErrRange},
		{books(a, shelf(1), on(a, -1), worstBook), 3, 2, api.ErrTwice},
		{books(a, shelf(1), on(a, 0), worstBook), 3, 2, api.ErrTwice},
		{books(a, a), 3, 1, api.ErrTwice},
		{books(shelf(1), on(a, -1), worstBook), 3, 1, api.ErrNone},
		{books(shelf(1), on(a, 3), worstBook), 3, 1, api.ErrNone},
		{books(shelf(1), on(a, 0), worstBook), 3, 1, api.ErrArg},
		{books(shelf(2), on(a, 1)), 3, 1, api.ErrArg},
		{books(shelf(2), on(a, 2)), 0, 0, api.OK},
		// All books come before how they fit.
		{books(book(mark(hist, 1, ""), 2000, 2000, 1, 0), worstBook), 3, 1, api.ErrNone},
		{books(book(mark(hist, 1, ""), 2000, 2000, 1, 1), a), 3, 1, api.ErrTwice},
		{books(book(mark(hist, 2, ""), 2000, 2000, 1, 1), a), 3, 1, api.ErrArg},
	}
	for _, n := range numbers(0, 1, 2, api.MaxSfHeavy, api.MaxSfSize, api.MaxSfNumber) {
		number, large, heavy := n >= 1 && n <= api.MaxSfNumber, n >= 1 && n <= api.MaxSfSize, n >= 1 && n <= api.MaxSfHeavy
		list = append(list, checkedIf(n == hist || n == art, books(a, book(mark(n, 9, ""), 1, 1, 1, 1)), 3, 1, api.ErrNone))
		list = append(list, checkedIf(number, books(a, book(mark(art, n, ""), 1, 1, 1, 1)), 3, 1, api.ErrRange))
		list = append(list, checkedIf(heavy, books(a, book(mark(art, 1, ""), 1, 1, n, 1)), 3, 1, api.ErrRange))
		list = append(list, checkedIf(n >= 0 && n <= 2, books(a, shelf(n)), 3, 1, api.ErrNone))
		room := plain(api.MaxSfSize)
		room.Shelves[0].High = api.MaxSfSize
		list = append(list, checkedIf(large, holding(room, book(mark(0, 1, ""), n, 1, 1, 0)), 3, 0, api.ErrRange))
		list = append(list, checkedIf(large, holding(room, book(mark(0, 1, ""), 1, n, 1, 0)), 3, 0, api.ErrRange))
	}
	return list
}

// checkedFit are rooms whose books do not fit, and whose books just do.
func checkedFit() []checked {
	wide := func(w, h, s int) api.SfBook { return book(mark(art, 1000*s+w, ""), w, h, 1, s) }
	return []checked{
		{books(wide(100, 300, 0), wide(60, 250, 1), wide(120, 400, 2)), 0, 0, api.OK},
		{books(wide(99, 1, 0), wide(1, 300, 0), wide(60, 250, 1)), 0, 0, api.OK},
		{books(wide(101, 1, 0)), 4, 0, api.ErrDown},
		{books(wide(1, 301, 0)), 4, 0, api.ErrDown},
		{books(wide(99, 1, 0), wide(2, 1, 0), wide(121, 1, 2)), 4, 0, api.ErrDown},
		{books(wide(1, 300, 0), wide(1, 251, 1), wide(121, 1, 2)), 4, 1, api.ErrDown},
		{books(wide(61, 1, 1)), 4, 1, api.ErrDown},
		{books(wide(100, 1, 0), wide(60, 1, 1), wide(1, 400, 2), wide(120, 1, 2)), 4, 2, api.ErrDown},
		{books(wide(100, 1, 0), wide(60, 1, 1), wide(1, 1, 2), wide(2, 401, 2), wide(3, 1, 2)), 4, 2, api.ErrDown},
		{but(func(r *api.SfRoom) { r.Books[0].Wide = 50 }), 0, 0, api.OK},
		{but(func(r *api.SfRoom) { r.Books[0].Wide = 51 }), 4, 0, api.ErrDown},
		{but(func(r *api.SfRoom) { r.Books[2].High = 250 }), 0, 0, api.OK},
		{but(func(r *api.SfRoom) { r.Books[2].High = 251 }), 4, 1, api.ErrDown},
	}
}

// P9.1: the errors of a room in their order.
func TestCheck(t *testing.T) {
	rooms := []checked{{example(), 0, 0, api.OK}, {exchanged(), 0, 0, api.OK}, {plain(1), 0, 0, api.OK}}
	for i, x := range slices.Concat(rooms, checkedClasses(), checkedShelves(), checkedBooks(), checkedFit()) {
		part, at, e := shelf.Check(x.r)
		if part != x.part || at != x.at || e != x.e {
			t.Errorf("%d: Check(%v) = %d, %d, %d, not %d, %d, %d", i, x.r, part, at, e, x.part, x.at, x.e)
		}
	}
}

// said are the errors of all functions but Check, each called with errors of its own as well, and what they return besides.
func said(r api.SfRoom) (errors map[string]api.Errno, results []any) {
	errors = map[string]api.Errno{}
	say := func(name string, e api.Errno, more ...any) {
		errors[name] = e
		results = append(results, more...)
	}
	text, e := shelf.Write(r, worstBook.Mark)
	say("Write", e, text)
	m, e := shelf.Read(r, "A")
	say("Read", e, m)
	n, e := shelf.Before(r, worstBook.Mark, worstBook.Mark)
	say("Before", e, n)
	list, e := shelf.Astray(r)
	say("Astray", e, list)
	list, e = shelf.Spare(r)
	say("Spare", e, list)
	list, e = shelf.Fits(r, worstBook)
	say("Fits", e, list)
	at, moved, list, e := shelf.Put(r, worstBook)
	say("Put", e, at, moved, list)
	list, other, moved, e := shelf.Arrange(r)
	say("Arrange", e, list, other, moved)
	list, moved, e = shelf.Clear(r, -1)
	say("Clear", e, list, moved)
	list, way, e := shelf.Walk(r, []int{-1, -1}, 0)
	say("Walk", e, list, way)
	return errors, results
}

// zero reports whether each of some results is its zero value.
func zero(results ...any) bool {
	for _, x := range results {
		switch s := fmt.Sprint(x); s {
		case "0", "", "[]", "{0 0 }":
		default:
			return false
		}
	}
	return true
}

// P9.1: all functions return the error of the room first, and nothing else.
func TestRoomFirst(t *testing.T) {
	for i, x := range slices.Concat(checkedClasses(), checkedShelves(), checkedBooks(), checkedFit()) {
		errors, results := said(x.r)
		if x.e == api.OK {
			continue
		}
		for name, e := range errors {
			if e != x.e {
				t.Errorf("%d: %s: %d", i, name, e)
			}
		}
		if !zero(results...) {
			t.Errorf("%d: %v", i, results)
		}
	}
}

// P9.1: all cases that the other tests are about have no error.
func TestCheckCases(t *testing.T) {
	for _, q := range cases() {
		if part, at, e := shelf.Check(q.SfRoom); part != 0 || at != 0 || e != api.OK {
			t.Errorf("Check(%v) = %d, %d, %d", q.SfRoom, part, at, e)
		}
	}
}

// badMark is a mark of the example, and its error.
type badMark struct {
	m api.SfMark
	e api.Errno
}

// badMarks are marks with errors, and without.
func badMarks() []badMark {
	list := []badMark{
		{mark(hist, 1, ""), api.OK}, {mark(art, 9999, "zz"), api.OK}, {mark(art, 1, "a"), api.OK}, {mark(hist, 1, "za"), api.OK},
		{mark(-1, 0, "A"), api.ErrNone}, {mark(2, 0, "abc"), api.ErrNone}, {mark(2, 1, ""), api.ErrNone}, {mark(hist, 0, "A"), api.ErrRange}, {mark(art, 10000, "aaa"), api.ErrRange},
		{mark(hist, 1, "A"), api.ErrForm}, {mark(hist, 1, "aB"), api.ErrForm}, {mark(hist, 1, "abc"), api.ErrForm}, {mark(hist, 1, "1"), api.ErrForm}, {mark(hist, 1, "a."), api.ErrForm}, {mark(hist, 1, " "), api.ErrForm},
		{mark(hist, 1, "`"), api.ErrForm}, {mark(hist, 1, "{"), api.ErrForm}, {mark(hist, 1, "ä"), api.ErrForm}, {mark(hist, 1, "\xff"), api.ErrForm}, {mark(hist, 1, "a\x00"), api.ErrForm}, {mark(hist, 1, strings.Repeat("a", 1<<16)), api.ErrForm},
	}
	for _, n := range numbers(0, 1, 9999) {
		list = append(list, badMark{mark(n, 7, ""), errorIf(n == 0 || n == 1, api.OK, api.ErrNone)}, badMark{mark(art, n, "q"), errorIf(n >= 1 && n <= 9999, api.OK, api.ErrRange)})
	}
	return list
}

// P9.1, P9.2: the error of a mark, of Write, and of a book.
func TestMarkErrors(t *testing.T) {
	for i, x := range badMarks() {
		if text, e := shelf.Write(example(), x.m); e != x.e || e != api.OK && text != "" {
			t.Errorf("%d: Write = %q, %d, not %d", i, text, e, x.e)
		}
		part, at, e := shelf.Check(books(book(mark(hist, 5, ""), 1, 1, 1, 0), book(x.m, 1, 1, 1, 0)))
		if x.e == api.OK && part+at != 0 || x.e != api.OK && (part != 3 || at != 1) || e != x.e {
			t.Errorf("%d: Check = %d, %d, %d, not %d", i, part, at, e, x.e)
		}
	}
}

// P9.3: the error of the one mark comes before that of the other one.
func TestBeforeErrors(t *testing.T) {
	for _, x := range badMarks() {
		for _, y := range badMarks() {
			want := errorIf(x.e != api.OK, x.e, y.e)
			if n, e := shelf.Before(example(), x.m, y.m); e != want || e != api.OK && n != 0 {
				t.Errorf("Before of %v, %v = %d, %d, not %d", x.m, y.m, n, e, want)
			}
		}
	}
}

// badBook is a further book, and its error if books are in order.
type badBook struct {
	b api.SfBook
	e api.Errno
}

// badBooks are books with errors that cannot be put into the example, and some without; their shelves do not count.
func badBooks() []badBook {
	var list []badBook
	for _, x := range badMarks() {
		list = append(list, badBook{book(x.m, 1, 1, 1, 0), x.e}, badBook{book(x.m, 0, 1, 1, -1), errorIf(x.e == api.OK, api.ErrRange, x.e)})
	}
	for _, m := range []api.SfMark{mark(art, 3, "b"), mark(hist, 2, "")} { // those of books that are there
		list = append(list, badBook{book(m, 1, 1, 1, 1), api.ErrTwice}, badBook{book(m, 2000, 2000, 100, 1), api.ErrTwice}, badBook{book(m, 0, 1, 1, 1), api.ErrRange}, badBook{book(m, 1, 2001, 1, 1), api.ErrRange}, badBook{book(m, 1, 1, 101, 1), api.ErrRange})
	}
	for _, n := range numbers(0, 1, api.MaxSfHeavy, api.MaxSfSize) {
		size, heavy := n >= 1 && n <= api.MaxSfSize, n >= 1 && n <= api.MaxSfHeavy
		m := mark(art, 3, "a")
		list = append(list, badBook{book(m, n, 1, 1, 0), errorIf(size, api.OK, api.ErrRange)}, badBook{book(m, 1, n, 1, 0), errorIf(size, api.OK, api.ErrRange)}, badBook{book(m, 1, 1, n, 0), errorIf(heavy, api.OK, api.ErrRange)})
		list = append(list, badBook{book(m, 1, 1, 1, n), api.OK})
	}
	return list
}

// P9.5: the error of a further book comes before books that are not in order, and these before anything else.
func TestFurtherErrors(t *testing.T) {
	for i, x := range badBooks() {
		for _, r := range []api.SfRoom{example(), exchanged()} {
			want := errorIf(x.e == api.OK && !inOrder(r.Books), api.ErrArg, x.e)
			fits, e := shelf.Fits(r, x.b)
			if e != want || e != api.OK && len(fits) > 0 {
				t.Errorf("%d: Fits of %v = %v, %d, not %d", i, x.b, fits, e, want)
			}
			at, moved, shelves, e := shelf.Put(r, x.b)
			if e == api.ErrDown && want == api.OK { // too large, which is no error of the book
				e = api.OK
			}
			if e != want || e != api.OK && !zero(at, moved, shelves) {
				t.Errorf("%d: Put of %v = %d, %d, %v, %d, not %d", i, x.b, at, moved, shelves, e, want)
			}
		}
	}
}

// P9.5: into a room with all books nothing can be put, even if the further one could be arranged, or could not; where it fits is told all the same.
func TestFullErrors(t *testing.T) {
	backwards := full()
	backwards.Books[0].Mark, backwards.Books[9].Mark = backwards.Books[9].Mark, backwards.Books[0].Mark
	for i, x := range []struct {
		r    api.SfRoom
		b    api.SfBook
		e    api.Errno
		fits []int
	}{
		{full(), book(mark(5, 1, ""), 1, 1, 1, 0), api.ErrLong, []int{0, 1, 2, 3}},
		{full(), book(mark(0, 1, "a"), 1, 1, 1, 0), api.ErrLong, []int{0}},
		{full(), book(mark(0, 10, "a"), 2, 1, 1, 0), api.ErrLong, []int{2, 3}},
		{full(), book(mark(0, 10, "a"), 1, 101, 1, 0), api.ErrLong, nil},
		{full(), book(mark(0, 1, "a"), 2000, 2000, 1, 0), api.ErrLong, nil},
		{full(), thin(10, 0), api.ErrTwice, nil},
		{full(), thin(10000, 0), api.ErrRange, nil},
		{backwards, book(mark(5, 1, ""), 1, 1, 1, 0), api.ErrArg, nil},
		{backwards, thin(10, 0), api.ErrTwice, nil},
	} {
		at, moved, shelves, e := shelf.Put(x.r, x.b)
		if !zero(at, moved, shelves) || e != x.e {
			t.Errorf("%d: Put = %d, %d, %v, %d", i, at, moved, shelves, e)
		}
		fits, e := shelf.Fits(x.r, x.b)
		if want := errorIf(x.e == api.ErrLong, api.OK, x.e); !slices.Equal(fits, x.fits) || e != want {
			t.Errorf("%d: Fits = %v, %d", i, fits, e)
		}
	}
}

// P9.6: an index that is none comes before books that are not in order, and these before books that cannot be arranged.
func TestClearErrors(t *testing.T) {
	for i, r := range []api.SfRoom{example(), exchanged(), tall(1, 0), full(), tall(3, 2, 1, 0), plain(1), holding(plain(1), thin(1, 0))} {
		for _, n := range numbers(0, 1, 3) {
			want := api.OK
			switch {
			case n < 0 || n >= len(r.Shelves):
				want = api.ErrNone
			case !inOrder(r.Books):
				want = api.ErrArg
			case len(shelvedOf(r.Shelves, r.Books, n)) == 0:
				want = api.ErrDown
			}
			if shelves, moved, e := shelf.Clear(r, n); e != want || e != api.OK && !zero(shelves, moved) {
				t.Errorf("%d: Clear of %d = %v, %d, %d, not %d", i, n, shelves, moved, e, want)
			}
		}
	}
}

// P9.7: the errors of Walk in their order.
func TestWalkErrors(t *testing.T) {
	r := example()
	for i, x := range []struct {
		r     api.SfRoom
		books []int
		carry int
		e     api.Errno
	}{
		{r, []int{-1, 0, 0, 1, 2, 3, 4}, 0, api.ErrLong}, {full(), []int{0, 1, 2, 3, 4, 5, 6}, 100, api.ErrLong}, {r, make([]int, 1<<16), 0, api.ErrLong}, {full(), []int{0, 1, 2, 3, 4, 5}, 100, api.OK},
		{r, []int{0, 0, 5}, 0, api.ErrNone}, {r, []int{0, 0, -1}, 0, api.ErrNone}, {r, []int{1, 5}, 101, api.ErrNone}, {plain(1), []int{0}, 0, api.ErrNone}, {r, []int{math.MinInt}, 1, api.ErrNone}, {r, []int{math.MaxInt}, 1, api.ErrNone},
		{r, []int{0, 0}, 0, api.ErrTwice}, {r, []int{4, 3, 2, 1, 0, 4}, 101, api.ErrTwice}, {r, []int{4, 1, 2, 1}, 8, api.ErrTwice},
		{r, []int{4}, 0, api.ErrRange}, {r, []int{4}, 101, api.ErrRange}, {r, nil, 0, api.ErrRange}, {r, nil, 101, api.ErrRange}, {plain(1), nil, math.MinInt, api.ErrRange}, {plain(1), nil, math.MaxInt, api.ErrRange}, {r, nil, 1, api.OK}, {plain(1), nil, 100, api.OK},
		{r, []int{4}, 8, api.ErrDown}, {r, []int{4}, 9, api.OK}, {r, []int{3, 2, 1, 0, 4}, 8, api.ErrDown}, {r, []int{4, 3, 2, 1, 0}, 8, api.ErrDown}, {r, []int{3, 2, 1, 0}, 8, api.OK}, {r, []int{3}, 1, api.ErrDown}, {huge(), []int{2}, 99, api.ErrDown}, {huge(), []int{2}, 100, api.OK},
	} {
		if trips, way, e := shelf.Walk(x.r, x.books, x.carry); e != x.e || e != api.OK && !zero(trips, way) {
			t.Errorf("%d: Walk = %v, %d, %d", i, trips, way, e)
		}
	}
}

// P9.16: all functions return for any numbers and texts.
func TestAnyArguments(t *testing.T) {
	ints := numbers(0, 3, 100)
	for _, n := range ints {
		for _, m := range ints {
			for i, r := range []api.SfRoom{
				example(), exchanged(), boards(board(n, m, 1, 1)), boards(board(1, 1, n, m)), books(book(mark(n, m, ""), 1, 1, 1, 0)), books(book(mark(0, 1, ""), n, m, 1, 0)), books(book(mark(0, 1, ""), 1, 1, n, m)),
				but(func(r *api.SfRoom) { r.Shelves[0].Wide, r.Shelves[1].High = n, m }), but(func(r *api.SfRoom) { r.Books[0].Shelf, r.Books[1].Shelf = n, m }),
			} {
				_, _, e := shelf.Check(r)
				errors, results := said(r)
				if wrong := errors["Walk"]; wrong != errorIf(e != api.OK, e, api.ErrNone) || e != api.OK && !zero(results...) {
					t.Errorf("%d, %d, %d: Walk: %d, %v", i, n, m, wrong, results)
				}
				shelf.Write(r, mark(n, m, "x"))
				shelf.Before(r, mark(n, 1, ""), mark(0, m, ""))
				shelf.Fits(r, book(mark(0, 7, ""), n, m, 1, n))
				shelf.Put(r, book(mark(0, 7, ""), n, m, 1, m))
				shelf.Put(r, book(mark(0, 7, ""), 1, 1, n, m))
				shelf.Clear(r, n)
				shelf.Walk(r, []int{n, m}, 10)
				shelf.Walk(r, []int{0, 1}, n)
			}
		}
	}
}

// behind is a book that is in memory behind those of a room.
var behind = book(mark(7, 7, "behind"), 7, 7, 7, 7)

// P9.16: no argument is changed, nor the memory behind it.
func TestNotChanged(t *testing.T) {
	t.Parallel()
	for i, q := range cases()[:200] {
		was := cloned(q.SfRoom)
		q.SfRoom = cloned(q.SfRoom)
		q.Classes = append(q.Classes, "behind")[:len(q.Classes)]
		q.Shelves = append(q.Shelves, board(7, 7, 7, 7))[:len(q.Shelves)]
		q.Books = append(q.Books, behind)[:len(q.Books)]
		lists := make([][]int, len(q.walks))
		q.walks = slices.Clone(q.walks)
		for k, w := range q.walks {
			lists[k] = slices.Clone(w.books)
			q.walks[k].books = append(slices.Clone(w.books), 7)[:len(w.books)]
		}
		if x := tell(q); differ(x, answers()[i]) != "" {
			t.Errorf("%v: %s: %v, was %v", q, differ(x, answers()[i]), x, answers()[i])
		}
		shelf.Check(q.SfRoom)
		said(q.SfRoom)
		if !same(q.SfRoom, was) {
			t.Errorf("%v became %v", was, q.SfRoom)
		}
		for k, w := range q.walks {
			if !slices.Equal(w.books, lists[k]) || w.books[:len(w.books)+1][len(w.books)] != 7 {
				t.Errorf("%v became %v", lists[k], w.books)
			}
		}
		if q.Classes[:len(q.Classes)+1][len(q.Classes)] != "behind" || q.Shelves[:len(q.Shelves)+1][len(q.Shelves)] != board(7, 7, 7, 7) || q.Books[:len(q.Books)+1][len(q.Books)] != behind {
			t.Errorf("what is behind %v was changed", was)
		}
	}
}

// P9.16: results are new memory: what is written there is seen neither in the arguments, nor in other results.
func TestNewMemory(t *testing.T) {
	t.Parallel()
	for i, q := range cases()[:100] {
		was := cloned(q.SfRoom)
		want := fmt.Sprint(tell(q))
		x := tell(q)
		lists := [][]int{x.astray, x.spare, x.arrange.books}
		for _, s := range x.fits {
			lists = append(lists, s.shelves)
		}
		for _, s := range slices.Concat(x.puts, x.clears, []shelved{x.arrange}) {
			lists = append(lists, s.shelves)
		}
		for _, w := range x.walks {
			lists = append(lists, w.trips)
		}
		for k, list := range lists {
			before := fmt.Sprint(lists[k+1:])
			scribble(list)
			if fmt.Sprint(lists[k+1:]) != before {
				t.Errorf("%d: results share memory", i)
			}
		}
		if !same(q.SfRoom, was) || fmt.Sprint(tell(q)) != want {
			t.Errorf("%d: %v became %v", i, was, q.SfRoom)
		}
	}
}

// scribble overwrites a list, also beyond its end.
func scribble(list []int) {
	list = list[:cap(list)]
	for i := range list {
		list[i] = -7
	}
}
