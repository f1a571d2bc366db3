package shelf_test

import (
	"slices"
	"testing"

	"duodecimo/api"
	"duodecimo/shelf"
)

// P9.4 to P9.7: all that is told of each case is so by going through all lists of books, shelves and trips.
func TestTold(t *testing.T) {
	t.Parallel()
	models := inAll(len(cases()), func(i int) told { return modelled(cases()[i]) })
	for i, q := range cases() {
		if x, y := answers()[i], models[i]; differ(x, y) != "" {
			t.Errorf("%d: %v: %s: %v, not %v", i, q, differ(x, y), x, y)
		}
	}
}

// least are the fewest books that are moved, by how many lists of shelves; none, if there are none.
func least(books []api.SfBook, all [][]int) (fewest, many int) {
	for _, get := range all {
		moved := movedOf(books, get, nothing)
		if many == 0 || moved < fewest {
			fewest, many = moved, 0
		}
		if moved == fewest {
			many++
		}
	}
	return fewest, many
}

// kinds counts things of each kind.
type kinds map[string]int

// count counts a thing if it is of a kind.
func (k kinds) count(kind string, isSo bool) {
	if isSo {
		k[kind]++
	}
}

// countRoom counts what is so of a room.
func (k kinds) countRoom(r api.SfRoom, x told) {
	order := taken(r.Books, sorted(r.Books))
	fewest, many := least(order, shelvedOf(r.Shelves, order, nothing))
	k.count("in order", len(r.Books) > 1 && inOrder(r.Books))
	k.count("one astray", len(x.astray) == 1)
	k.count("several astray", len(x.astray) > 1)
	k.count("not the first book astray", len(x.astray) > 0 && x.astray[0] > 0)
	k.count("no book", len(r.Books) == 0)
	k.count("largest", len(r.Books) == api.MaxSfBooks && len(r.Shelves) == api.MaxSfShelves && len(r.Classes) == api.MaxSfClasses)
	k.count("largest, not in order", len(r.Books) == api.MaxSfBooks && len(r.Shelves) == api.MaxSfShelves && !inOrder(r.Books))
	k.count("just one class", len(r.Classes) == 1)
	k.count("no spare width", slices.Max(x.spare) == 0)
	k.count("some spare width", slices.Max(x.spare) > 0)
	k.count("arranged with some moved", x.arrange.moved > 0)
	k.count("arranged with none moved", x.arrange.e == api.OK && x.arrange.moved == 0 && len(r.Books) > 0)
	k.count("arranged with none moved on each shelf, not in order", x.arrange.e == api.OK && x.arrange.moved == 0 && !inOrder(r.Books))
	k.count("not arranged", x.arrange.e == api.ErrDown)
	k.count("not arranged, largest", x.arrange.e == api.ErrDown && len(r.Books) == api.MaxSfBooks && len(r.Shelves) == api.MaxSfShelves)
	k.count("several ways to arrange with as few moved", many > 1 && fewest > 0)
	for _, c := range x.clears {
		k.count("cleared with some moved", c.moved > 0)
		k.count("cleared with none moved", c.e == api.OK && c.moved == 0 && len(r.Books) > 0)
		k.count("not cleared", c.e == api.ErrDown)
		k.count("not cleared, with several shelves", c.e == api.ErrDown && len(r.Shelves) > 1)
	}
}

// countAsked counts what is so of further books and walks.
func (k kinds) countAsked(q question, x told) {
	for i, p := range x.puts {
		fits := x.fits[i].shelves
		k.count("put with some moved", p.moved > 0)
		k.count("put with several moved", p.moved > 1)
		k.count("put with none moved", p.e == api.OK && p.moved == 0 && len(q.Books) > 0)
		k.count("not put", p.e == api.ErrDown)
		k.count("not put, too many books", p.e == api.ErrLong)
		k.count("put first", p.e == api.OK && p.books[0] == 0 && len(q.Books) > 0)
		k.count("put last", p.e == api.OK && p.books[0] == len(q.Books) && len(q.Books) > 0)
		k.count("put between", p.e == api.OK && p.books[0] > 0 && p.books[0] < len(q.Books))
		k.count("fits on one shelf", len(fits) == 1)
		k.count("fits on several shelves", len(fits) > 1)
		k.count("fits on no shelf", len(fits) == 0 && p.e == api.OK)
		k.count("fits beside the most books", len(fits) > 0 && p.e == api.ErrLong)
	}
	for i, w := range x.walks {
		n := 0
		for _, trip := range w.trips {
			n = max(n, trip+1)
		}
		k.count("one trip", n == 1 && len(w.trips) > 1)
		k.count("two trips", n == 2 && len(w.trips) > 2)
		k.count("more trips", n > 2)
		k.count("as many trips as books", n == len(w.trips) && n > 1)
		k.count("trips in turn", !slices.IsSorted(w.trips))
		k.count("no trip", w.e == api.OK && n == 0)
		k.count("too heavy", w.e == api.ErrDown)
		k.count("most books to fetch", len(w.trips) == api.MaxSfList)
		k.count("the most to carry", q.walks[i].carry == api.MaxSfHeavy)
	}
}

// Among the cases are enough of each kind.
func TestCases(t *testing.T) {
	k := kinds{}
	asks(func(q question, x told) {
		k.countRoom(q.SfRoom, x)
		k.countAsked(q, x)
	})
	for _, kind := range []string{
		"in order", "one astray", "several astray", "not the first book astray", "no book", "largest", "largest, not in order", "just one class", "no spare width", "some spare width",
		"arranged with some moved", "arranged with none moved", "arranged with none moved on each shelf, not in order", "not arranged", "not arranged, largest", "several ways to arrange with as few moved",
		"cleared with some moved", "cleared with none moved", "not cleared", "not cleared, with several shelves",
		"put with some moved", "put with several moved", "put with none moved", "not put", "not put, too many books", "put first", "put last", "put between",
		"fits on one shelf", "fits on several shelves", "fits on no shelf", "fits beside the most books",
		"one trip", "two trips", "more trips", "as many trips as books", "trips in turn", "no trip", "too heavy", "most books to fetch", "the most to carry",
	} {
		if k[kind] < 20 {
			t.Errorf("%s: %d", kind, k[kind])
		}
	}
	t.Log(k)
}

// expectShelved checks what was told by Put, Arrange or Clear.
func expectShelved(t *testing.T, what string, got, want shelved) {
	t.Helper()
	if !slices.Equal(got.books, want.books) || !slices.Equal(got.shelves, want.shelves) || got.moved != want.moved || got.e != want.e {
		t.Errorf("%s = %v, not %v", what, got, want)
	}
}

// put is what Put says.
func put(r api.SfRoom, b api.SfBook) shelved {
	at, moved, shelves, e := shelf.Put(r, b)
	return shelved{[]int{at}, shelves, moved, e}
}

// arrange is what Arrange says.
func arrange(r api.SfRoom) shelved {
	books, shelves, moved, e := shelf.Arrange(r)
	return shelved{books, shelves, moved, e}
}

// cleared is what Clear says.
func cleared(r api.SfRoom, s int) shelved {
	shelves, moved, e := shelf.Clear(r, s)
	return shelved{nil, shelves, moved, e}
}

// The chapter's examples, one by one.
func TestExamples(t *testing.T) {
	r := example()
	if n, e := shelf.Before(r, mark(art, 1, ""), mark(hist, 10, "")); n != 1 || e != api.OK {
		t.Errorf("Before = %d, %d", n, e)
	}
	if n, e := shelf.Before(r, mark(hist, 10, "b"), mark(hist, 10, "aa")); n != -1 || e != api.OK {
		t.Errorf("Before = %d, %d", n, e)
	}
	for _, x := range []struct {
		text string
		m    api.SfMark
		e    api.Errno
	}{{"hist.10ab", mark(hist, 10, "ab"), api.OK}, {"hist.010", api.SfMark{}, api.ErrForm}, {"law.1", api.SfMark{}, api.ErrNone}} {
		if m, e := shelf.Read(r, x.text); m != x.m || e != x.e {
			t.Errorf("Read of %q = %v, %d", x.text, m, e)
		}
	}
	list, e := shelf.Astray(r)
	expectList(t, "Astray", list, e)
	list, e = shelf.Astray(exchanged())
	expectList(t, "Astray", list, e, 1, 2)
	list, e = shelf.Spare(r)
	expectList(t, "Spare", list, e, 10, 10, 60)
	hist4, art2 := book(mark(hist, 4, ""), 20, 200, 1, 0), book(mark(art, 2, ""), 20, 200, 1, 0)
	list, e = shelf.Fits(r, hist4)
	expectList(t, "Fits of hist.4", list, e)
	list, e = shelf.Fits(r, art2)
	expectList(t, "Fits of art.2", list, e, 2)
	expectShelved(t, "Put", put(r, hist4), shelved{[]int{1}, []int{0, 0, 1, 2, 2, 2}, 3, api.OK})
	expectShelved(t, "Clear of 1", cleared(r, 1), shelved{nil, []int{0, 0, 2, 2, 2}, 2, api.OK})
	expectShelved(t, "Clear of 2", cleared(r, 2), shelved{e: api.ErrDown})
	trips, way, e := shelf.Walk(r, []int{0, 1, 2, 3, 4}, 14)
	if !slices.Equal(trips, []int{0, 0, 0, 0, 1}) || way != 76 || e != api.OK {
		t.Errorf("Walk = %v, %d, %d", trips, way, e)
	}
}

// P9.4: the fewest books, the first ones of as many, as they stand; without books, or with one, none is astray.
func TestAstray(t *testing.T) {
	for i, x := range []struct{ numbers, want []int }{
		{nil, nil}, {[]int{5}, nil}, {[]int{1, 2, 3}, nil}, {[]int{2, 1}, []int{0}}, {[]int{2, 3, 1}, []int{2}}, {[]int{3, 1, 2}, []int{0}}, {[]int{3, 2, 1}, []int{0, 1}}, {[]int{2, 1, 4, 3}, []int{0, 2}}, {[]int{1, 3, 2, 4}, []int{1}}, {[]int{5, 1, 2, 3, 4}, []int{0}}, {[]int{4, 5, 1, 2, 3}, []int{0, 1}}, {[]int{3, 4, 1, 2}, []int{0, 1}},
		{[]int{10, 9, 8, 7, 6, 5, 4, 3, 2, 1}, []int{0, 1, 2, 3, 4, 5, 6, 7, 8}}, {[]int{2, 3, 4, 5, 6, 7, 8, 9, 10, 1}, []int{9}},
	} {
		r := plain(20)
		for _, n := range x.numbers {
			r.Books = append(r.Books, thin(n, 0))
		}
		list, e := shelf.Astray(r)
		if !slices.Equal(list, x.want) || e != api.OK {
			t.Errorf("%d: Astray = %v, %d", i, list, e)
		}
	}
}

// P9.4: of each shelf, also of one without books; the order of books does not matter.
func TestSpare(t *testing.T) {
	for i, x := range []struct {
		r    api.SfRoom
		want []int
	}{
		{plain(7, 1, 2000), []int{7, 1, 2000}}, {exchanged(), []int{10, 10, 60}}, {full(), []int{1, 1, 2, 11}}, {tall(1, 0), []int{0, 0}}, {huge(), []int{0, 0, 0, 0}}, {holding(plain(5, 5, 5), thin(3, 0), thin(1, 2), thin(2, 2)), []int{4, 5, 3}},
	} {
		list, e := shelf.Spare(x.r)
		if !slices.Equal(list, x.want) || e != api.OK {
			t.Errorf("%d: Spare = %v, %d", i, list, e)
		}
	}
}

// P9.5: a further book fits between the books before and behind it, where there is room for it, wherever it has its Shelf.
func TestFits(t *testing.T) {
	r := holding(plain(2, 2, 3, 2), thin(10, 0), thin(20, 2), thin(30, 2))
	r.Shelves[3].High = 50
	for i, x := range []struct {
		b    api.SfBook
		want []int
	}{
		{thin(5, 0), []int{0}}, {thin(5, 3), []int{0}}, {thin(15, 0), []int{0, 1, 2}}, {thin(15, -1), []int{0, 1, 2}}, {thin(25, 0), []int{2}}, {thin(35, 0), []int{2, 3}},
		{book(mark(0, 15, ""), 2, 1, 1, 0), []int{1}}, {book(mark(0, 15, ""), 1, 100, 1, 0), []int{0, 1, 2}}, {book(mark(0, 15, ""), 1, 101, 1, 0), nil}, {book(mark(0, 35, ""), 1, 51, 1, 0), []int{2}}, {book(mark(0, 35, ""), 2, 50, 1, 0), []int{3}}, {book(mark(0, 35, ""), 3, 1, 1, 0), nil},
		{book(mark(0, 5, ""), 2, 1, 1, 0), nil}, {book(mark(0, 10, "a"), 1, 1, 100, 0), []int{0, 1, 2}},
	} {
		list, e := shelf.Fits(r, x.b)
		if !slices.Equal(list, x.want) || e != api.OK {
			t.Errorf("%d: Fits = %v, %d", i, list, e)
		}
	}
	list, e := shelf.Fits(plain(5, 4, 5), book(mark(0, 1, ""), 5, 1, 1, 0))
	expectList(t, "Fits", list, e, 0, 2)
}

// P9.5: the fewest books are moved, the further one is none of them; of several shelves with as few the first ones.
func TestPut(t *testing.T) {
	r := holding(plain(2, 2, 2), thin(10, 0), thin(20, 0), thin(30, 1))
	at := func(n int) []int { return []int{n} }
	for i, x := range []struct {
		r    api.SfRoom
		b    api.SfBook
		want shelved
	}{
		{plain(1, 1), thin(1, 1), shelved{at(0), []int{0}, 0, api.OK}}, {plain(1, 2), book(mark(0, 1, ""), 2, 1, 1, 0), shelved{at(0), []int{1}, 0, api.OK}}, {plain(1, 2), book(mark(0, 1, ""), 3, 1, 1, 0), shelved{at(0), nil, 0, api.ErrDown}},
		{r, thin(5, 2), shelved{at(0), []int{0, 0, 1, 1}, 1, api.OK}}, {r, thin(15, 2), shelved{at(1), []int{0, 0, 1, 1}, 1, api.OK}}, {r, thin(25, 0), shelved{at(2), []int{0, 0, 1, 1}, 0, api.OK}}, {r, thin(35, 0), shelved{at(3), []int{0, 0, 1, 1}, 0, api.OK}},
		{r, book(mark(0, 25, ""), 2, 1, 1, 0), shelved{at(2), []int{0, 0, 1, 2}, 1, api.OK}}, {r, book(mark(0, 5, ""), 2, 1, 1, 0), shelved{at(0), []int{0, 1, 1, 2}, 3, api.OK}}, {r, book(mark(0, 35, ""), 2, 1, 1, 0), shelved{at(3), []int{0, 0, 1, 2}, 0, api.OK}}, {r, book(mark(0, 15, ""), 2, 1, 1, 0), shelved{at(1), []int{0, 1, 2, 2}, 2, api.OK}},
		{holding(plain(1, 1), thin(1, 0), thin(3, 1)), thin(2, 0), shelved{at(0), nil, 0, api.ErrDown}}, {holding(plain(1, 1, 1), thin(1, 1), thin(3, 2)), thin(2, 0), shelved{at(1), []int{0, 1, 2}, 1, api.OK}}, {holding(plain(2, 2, 2), thin(1, 1), thin(3, 1)), thin(2, 0), shelved{at(1), []int{0, 0, 1}, 1, api.OK}},
		{holding(plain(9, 9), thin(1, 1)), thin(2, 0), shelved{at(1), []int{1, 1}, 0, api.OK}}, {holding(plain(9, 9), thin(2, 1)), thin(1, 1), shelved{at(0), []int{0, 1}, 0, api.OK}},
	} {
		expectShelved(t, "Put "+string(rune('a'+i)), put(x.r, x.b), x.want)
	}
}

// P9.6: books are put in order; of several shelves with as few books moved the first ones.
func TestArrange(t *testing.T) {
	for i, x := range []struct {
		r    api.SfRoom
		want shelved
	}{
		{plain(1), shelved{}}, {example(), shelved{[]int{0, 1, 2, 3, 4}, []int{0, 0, 1, 1, 2}, 0, api.OK}}, {exchanged(), shelved{[]int{0, 3, 2, 1, 4}, []int{0, 1, 1, 2, 2}, 1, api.OK}},
		{holding(plain(2, 2), thin(2, 0), thin(1, 0)), shelved{[]int{1, 0}, []int{0, 0}, 0, api.OK}}, {holding(plain(1, 1), thin(2, 0), thin(1, 1)), shelved{[]int{1, 0}, []int{0, 1}, 2, api.OK}}, {holding(plain(2, 2), thin(2, 0), thin(1, 1)), shelved{[]int{1, 0}, []int{0, 0}, 1, api.OK}},
		{holding(plain(2, 2, 2), thin(3, 0), thin(1, 1), thin(2, 2)), shelved{[]int{1, 2, 0}, []int{1, 2, 2}, 1, api.OK}}, {holding(plain(1, 2, 1), thin(3, 0), thin(1, 1), thin(2, 2)), shelved{[]int{1, 2, 0}, []int{1, 1, 2}, 2, api.OK}},
		{tall(0, 1), shelved{[]int{0, 1}, []int{0, 1}, 0, api.OK}}, {tall(1, 0), shelved{e: api.ErrDown}}, {tall(0, 2, 1), shelved{e: api.ErrDown}}, {tall(0, 1, 2, 3), shelved{[]int{0, 1, 2, 3}, []int{0, 1, 2, 3}, 0, api.OK}}, {tall(3, 2, 1, 0), shelved{e: api.ErrDown}}, {huge(), shelved{[]int{3, 0, 1, 2}, []int{0, 1, 2, 3}, 4, api.OK}},
	} {
		expectShelved(t, "Arrange "+string(rune('a'+i)), arrange(x.r), x.want)
	}
}

// P9.6: no book is on the shelf then; one without books is clear with none moved.
func TestClear(t *testing.T) {
	r := holding(plain(2, 2, 2), thin(1, 0), thin(2, 0), thin(3, 2))
	for i, x := range []struct {
		r    api.SfRoom
		s    int
		want shelved
	}{
		{plain(1), 0, shelved{}}, {holding(plain(1), thin(1, 0)), 0, shelved{e: api.ErrDown}}, {holding(plain(1, 1), thin(1, 0)), 0, shelved{nil, []int{1}, 1, api.OK}}, {holding(plain(1, 1), thin(1, 0)), 1, shelved{nil, []int{0}, 0, api.OK}}, {holding(plain(1, 1), thin(1, 1)), 1, shelved{nil, []int{0}, 1, api.OK}},
		{r, 0, shelved{nil, []int{1, 1, 2}, 2, api.OK}}, {r, 1, shelved{nil, []int{0, 0, 2}, 0, api.OK}}, {r, 2, shelved{nil, []int{0, 0, 1}, 1, api.OK}},
		{example(), 0, shelved{e: api.ErrDown}}, {full(), 0, shelved{nil, []int{1, 2, 2, 3, 3, 3, 3, 3, 3, 3}, 10, api.OK}}, {full(), 1, shelved{nil, make([]int, 10), 0, api.OK}}, {full(), 3, shelved{nil, make([]int, 10), 0, api.OK}},
		{tall(0, 1), 1, shelved{e: api.ErrDown}}, {tall(0, 1), 0, shelved{e: api.ErrDown}},
	} {
		expectShelved(t, "Clear "+string(rune('a'+i)), cleared(x.r, x.s), x.want)
	}
}

// P9.7: the shortest way, and the first trips of several; the order in which books are named counts, and each climb once a trip.
func TestWalk(t *testing.T) {
	r := api.SfRoom{Classes: []string{"a"}, Shelves: []api.SfShelf{board(0, 0, 9, 9), board(10, 5, 9, 9), board(10, 1, 9, 9), board(100, 0, 9, 9)}}
	for n, on := range []int{0, 1, 1, 2, 3, 3} { // a.0 and a.5 weigh 1, the others 2
		r.Books = append(r.Books, book(mark(0, n+1, ""), 1, 1, []int{1, 2, 2, 2, 2, 1}[n], on))
	}
	for i, x := range []struct {
		books []int
		carry int
		trips []int
		way   int
	}{
		{nil, 5, nil, 0}, {[]int{0}, 1, []int{0}, 0}, {[]int{1}, 2, []int{0}, 30}, {[]int{4}, 2, []int{0}, 200},
		{[]int{1, 2}, 4, []int{0, 0}, 30}, {[]int{1, 2}, 3, []int{0, 1}, 60}, {[]int{1, 3}, 4, []int{0, 0}, 32}, {[]int{1, 3}, 2, []int{0, 1}, 52}, {[]int{3, 4}, 4, []int{0, 0}, 202},
		{[]int{1, 2, 3}, 4, []int{0, 0, 1}, 52}, {[]int{1, 3, 2}, 4, []int{0, 1, 0}, 52}, {[]int{3, 1, 2}, 4, []int{0, 1, 1}, 52},
		{[]int{0, 1, 4}, 3, []int{0, 0, 1}, 230}, {[]int{0, 1}, 2, []int{0, 1}, 30}, {[]int{0, 5}, 2, []int{0, 0}, 200}, {[]int{0, 5}, 1, []int{0, 1}, 200}, {[]int{4, 1, 5}, 3, []int{0, 1, 0}, 230},
		{[]int{0, 1, 2, 3, 4, 5}, 100, []int{0, 0, 0, 0, 0, 0}, 212}, {[]int{0, 1, 2, 3, 4, 5}, 10, []int{0, 0, 0, 0, 0, 0}, 212}, {[]int{0, 1, 2, 3, 4, 5}, 9, []int{0, 1, 1, 1, 1, 1}, 212}, {[]int{5, 4, 3, 2, 1, 0}, 9, []int{0, 0, 0, 0, 0, 1}, 212}, {[]int{0, 1, 2, 3, 4, 5}, 5, []int{0, 0, 0, 1, 1, 1}, 232}, {[]int{0, 1, 2, 3, 4, 5}, 2, []int{0, 1, 2, 3, 4, 0}, 482},
	} {
		if trips, way, e := shelf.Walk(r, x.books, x.carry); !slices.Equal(trips, x.trips) || way != x.way || e != api.OK {
			t.Errorf("%d: Walk = %v, %d, %d", i, trips, way, e)
		}
	}
	if trips, way, e := shelf.Walk(huge(), []int{0, 1, 2, 3}, 100); !slices.Equal(trips, []int{0, 1, 2, 3}) || way != 16000 || e != api.OK {
		t.Errorf("Walk = %v, %d, %d", trips, way, e)
	}
}
