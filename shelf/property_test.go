package shelf_test

import (
	"math/rand"
	"slices"
	"testing"

	"duodecimo/api"
	"duodecimo/shelf"
)

// isGood reports whether a room has no error and is in order, by Check and Before alone.
func isGood(t *testing.T, r api.SfRoom) bool {
	t.Helper()
	if _, _, e := shelf.Check(r); e != api.OK {
		return false
	}
	for i, b := range r.Books {
		if i == 0 {
			continue
		}
		n, e := shelf.Before(r, r.Books[i-1].Mark, b.Mark)
		if e != api.OK {
			t.Fatalf("%v: Before: %d", r, e)
		}
		if n >= 0 {
			return false
		}
	}
	return true
}

// P9.10: without the books of Astray the others are in order; without any fewer, or as many that come before, they are not.
func TestFewestAstray(t *testing.T) {
	t.Parallel()
	tried := 0
	asks(func(q question, x told) {
		for _, some := range subsets()[len(q.Books)] {
			if slices.Equal(some, x.astray) {
				break
			}
			if inOrder(without(q.Books, some)) {
				t.Errorf("%v: Astray = %v, not %v", q.SfRoom, x.astray, some)
				break
			}
			tried++
		}
		left := q.SfRoom
		left.Books = without(q.Books, x.astray)
		if !isGood(t, left) {
			t.Errorf("%v: Astray = %v", q.SfRoom, x.astray)
		}
		if list, e := shelf.Astray(left); len(list) > 0 || e != api.OK {
			t.Errorf("%v: Astray = %v, %d", left, list, e)
		}
	})
	if tried < 20000 {
		t.Errorf("just %d lists were tried", tried)
	}
}

// P9.10: in the order of Arrange none is astray, and it has each book once.
func TestArrangedNoneAstray(t *testing.T) {
	asks(func(q question, x told) {
		if x.arrange.e != api.OK {
			return
		}
		all := slices.Sorted(slices.Values(x.arrange.books))
		if len(all) != len(q.Books) || len(slices.Compact(all)) != len(all) || len(all) > 0 && (all[0] != 0 || all[len(all)-1] != len(all)-1) {
			t.Errorf("%v: Arrange = %v", q.SfRoom, x.arrange)
		}
		r := standing(q.SfRoom, taken(q.Books, x.arrange.books), x.arrange.shelves)
		if list, e := shelf.Astray(r); len(list) > 0 || e != api.OK {
			t.Errorf("%v: Arrange = %v; Astray = %v, %d", q.SfRoom, x.arrange, list, e)
		}
	})
}

// needless checks that shelves which some books of a room get are arranged, with as many moved as is said, and that no others are with fewer moved, or with as few, and come before; if there is an error, none are. Nothing is on the closed shelf, and the further book is not counted. It returns how many others were tried that are arranged.
func needless(t *testing.T, r api.SfRoom, books []api.SfBook, x shelved, closed, further int) int {
	t.Helper()
	isSo := func(get []int) bool { return !slices.Contains(get, closed) && isGood(t, standing(r, books, get)) }
	if x.e == api.OK && (len(x.shelves) != len(books) || !isSo(x.shelves) || movedOf(books, x.shelves, further) != x.moved) {
		t.Errorf("%v: %v", r, x)
		return 0
	}
	others, before := 0, true
	for _, get := range allShelves()[len(books)][len(r.Shelves)] {
		if before = before && !slices.Equal(get, x.shelves); !isSo(get) {
			continue
		}
		others++
		if moved := movedOf(books, get, further); x.e != api.OK || moved < x.moved || before && moved == x.moved {
			t.Errorf("%v: %v, not %v", r, x, get)
		}
	}
	return others
}

// P9.11: what Put, Arrange and Clear return is arranged, and no other shelves that are have fewer books moved, or as few and come before; there are none if there is an error.
func TestNoNeed(t *testing.T) {
	t.Parallel()
	others, puts, clears := 0, 0, 0
	asks(func(q question, x told) {
		others += needless(t, q.SfRoom, taken(q.Books, sorted(q.Books)), x.arrange, nothing, nothing)
		if !inOrder(q.Books) {
			return
		}
		for i, c := range x.clears {
			clears += needless(t, q.SfRoom, q.Books, c, i, nothing)
		}
		if len(q.Books) == api.MaxSfBooks {
			return
		}
		for i, p := range x.puts {
			r, at := with(q.SfRoom, q.further[i])
			if p.e == api.OK && p.books[0] != at {
				t.Errorf("%v: Put of %v = %v", q.SfRoom, q.further[i], p)
			}
			puts += needless(t, q.SfRoom, r.Books, p, nothing, at)
		}
	})
	if others < 5000 || puts < 5000 || clears < 5000 {
		t.Errorf("just %d, %d, %d others are arranged", others, puts, clears)
	}
}

// P9.11: books that are in order are arranged with none moved, as they are by Arrange; and a shelf that was cleared is so with none moved.
func TestArrangedAgain(t *testing.T) {
	t.Parallel()
	again := 0
	check := func(r api.SfRoom) {
		var order, on []int
		for i, b := range r.Books {
			order, on = append(order, i), append(on, b.Shelf)
		}
		expectShelved(t, "Arrange again", arrange(r), shelved{order, on, 0, api.OK})
		for i := range r.Shelves {
			if slices.Contains(on, i) {
				continue
			}
			expectShelved(t, "Clear again", cleared(r, i), shelved{nil, on, 0, api.OK})
		}
		again++
	}
	asks(func(q question, x told) {
		if inOrder(q.Books) {
			check(q.SfRoom)
		}
		if x.arrange.e == api.OK {
			check(standing(q.SfRoom, taken(q.Books, x.arrange.books), x.arrange.shelves))
		}
		for i, c := range x.clears {
			if c.e == api.OK && c.moved > 0 {
				r := standing(q.SfRoom, q.Books, c.shelves)
				check(r)
				expectShelved(t, "Clear again", cleared(r, i), shelved{nil, c.shelves, 0, api.OK})
			}
		}
	})
	if again < 2000 {
		t.Errorf("just %d rooms are in order", again)
	}
}

// P9.12: on a shelf of Fits the further book stands in order with none moved, on the others it does not; Put moves none just if there is such a shelf, and takes the first one.
func TestWithoutMoving(t *testing.T) {
	t.Parallel()
	moved, still := 0, 0
	asks(func(q question, x told) {
		if !inOrder(q.Books) {
			return
		}
		for i, b := range q.further {
			fits := x.fits[i].shelves
			if len(q.Books) == api.MaxSfBooks {
				continue
			}
			for s := range q.Shelves {
				r, _ := with(q.SfRoom, on(b, s))
				if isGood(t, r) != slices.Contains(fits, s) {
					t.Errorf("%v: Fits of %v = %v", q.SfRoom, b, fits)
				}
			}
			p := x.puts[i]
			if (p.e == api.OK && p.moved == 0) != (len(fits) > 0) || len(fits) > 0 && p.shelves[p.books[0]] != fits[0] {
				t.Errorf("%v: Fits of %v = %v, but Put = %v", q.SfRoom, b, fits, p)
			}
			if p.moved > 0 {
				moved++
			} else if p.e == api.OK {
				still++
			}
		}
	})
	if moved < 200 || still < 1000 {
		t.Errorf("%d times books are moved, %d times none", moved, still)
	}
}

// P9.12: also beside the most books that there can be, where Put returns an error: each shelf of Fits has room, between the books before and behind.
func TestFitsBesideMost(t *testing.T) {
	fitted := 0
	asks(func(q question, x told) {
		if len(q.Books) < api.MaxSfBooks || !inOrder(q.Books) {
			return
		}
		for i, b := range q.further {
			r, at := with(q.SfRoom, b)
			lo, hi := 0, len(q.Shelves)-1
			if at > 0 {
				lo = r.Books[at-1].Shelf
			}
			if at < len(q.Books) {
				hi = r.Books[at+1].Shelf
			}
			var want []int
			for s := lo; s <= hi; s++ {
				if q.Shelves[s].High >= b.High && x.spare[s] >= b.Wide {
					want = append(want, s)
				}
			}
			if fits := x.fits[i].shelves; !slices.Equal(fits, want) {
				t.Errorf("%v: Fits of %v = %v, not %v", q.SfRoom, b, fits, want)
			}
			fitted += len(want)
		}
	})
	if fitted < 100 {
		t.Errorf("just %d shelves fit", fitted)
	}
}

// larger is a room with a shelf that is wider or higher, or a book that is narrower or lower; this can be the further one.
func larger(r *rand.Rand, x api.SfRoom, b api.SfBook) (api.SfRoom, api.SfBook) {
	x = cloned(x)
	s, c := &x.Shelves[r.Intn(len(x.Shelves))], &b
	if n := r.Intn(len(x.Books) + 1); n < len(x.Books) {
		c = &x.Books[n]
	}
	switch more := oneOf(r, 1, 10, 50, api.MaxSfSize); r.Intn(4) {
	case 0:
		s.Wide = min(api.MaxSfSize, s.Wide+more)
	case 1:
		s.High = min(api.MaxSfSize, s.High+more)
	case 2:
		c.Wide = max(1, c.Wide-more)
	case 3:
		c.High = max(1, c.High-more)
	}
	return x, b
}

// P9.13: with a wider or higher shelf, or a narrower or lower book, what could be arranged still can, with no more books moved.
func TestWider(t *testing.T) {
	t.Parallel()
	r := seed(913)
	fewer, possible := 0, 0
	compare := func(x api.SfRoom, was, is shelved) {
		if was.e == api.OK && (is.e != api.OK || is.moved > was.moved) {
			t.Errorf("%v: %v, was %v", x, is, was)
		}
		if was.e == api.ErrDown && is.e == api.OK {
			possible++
		} else if is.moved < was.moved {
			fewer++
		}
	}
	asks(func(q question, x told) {
		for i, b := range q.further {
			room, c := larger(r, q.SfRoom, b)
			compare(room, x.arrange, arrange(room))
			compare(room, x.puts[i], put(room, c))
			for s, was := range x.clears {
				compare(room, was, cleared(room, s))
			}
			if fits, e := shelf.Fits(room, c); e == api.OK && slices.ContainsFunc(x.fits[i].shelves, func(s int) bool { return !slices.Contains(fits, s) }) {
				t.Errorf("%v: Fits of %v = %v, was %v", room, c, fits, x.fits[i])
			}
		}
	})
	if fewer < 100 || possible < 1000 {
		t.Errorf("%d times fewer are moved, %d times all can be arranged", fewer, possible)
	}
}

// P9.14: trips are numbered from 0 on, carry no more than can be carried, and are as long as Walk says; no other trips are shorter, or as short and come before.
func TestShortest(t *testing.T) {
	t.Parallel()
	longer := 0
	asks(func(q question, x told) {
		for i, w := range q.walks {
			f := x.walks[i]
			heaviest := 0
			for _, b := range w.books {
				heaviest = max(heaviest, q.Books[b].Heavy)
			}
			if (f.e == api.OK) != (heaviest <= w.carry) || f.e != api.OK && f.e != api.ErrDown {
				t.Errorf("%v: Walk of %v = %v", q.SfRoom, w, f)
			}
			if f.e != api.OK {
				continue
			}
			next := 0
			for _, trip := range f.trips {
				if trip < 0 || trip > next {
					t.Errorf("%v: Walk of %v = %v", q.SfRoom, w, f)
				}
				next = max(next, trip+1)
			}
			if len(f.trips) != len(w.books) || len(f.trips) > 0 && slices.Max(carried(q.SfRoom, w, f.trips)) > w.carry || wayOf(q.SfRoom, w, f.trips) != f.way {
				t.Errorf("%v: Walk of %v = %v", q.SfRoom, w, f)
			}
			before := true
			for _, trips := range numberings()[len(w.books)] {
				before = before && !slices.Equal(trips, f.trips)
				if len(trips) > 0 && slices.Max(carried(q.SfRoom, w, trips)) > w.carry {
					continue
				}
				if way := wayOf(q.SfRoom, w, trips); way < f.way || before && way == f.way {
					t.Errorf("%v: Walk of %v = %v, not %v", q.SfRoom, w, f, trips)
				} else if way > f.way {
					longer++
				}
			}
		}
	})
	if longer < 100000 {
		t.Errorf("just %d ways are longer", longer)
	}
}

// P9.14: with more to carry, or fewer books, the way is no longer.
func TestNoLonger(t *testing.T) {
	t.Parallel()
	r := seed(914)
	stronger, fewer := 0, 0
	asks(func(q question, x told) {
		for i, w := range q.walks {
			f := x.walks[i]
			if f.e != api.OK {
				continue
			}
			more := min(api.MaxSfHeavy, w.carry+oneOf(r, 1, 5, 50))
			_, way, e := shelf.Walk(q.SfRoom, w.books, more)
			if e != api.OK || way > f.way {
				t.Errorf("%v: Walk of %v = %v, with %d to carry %d, %d", q.SfRoom, w, f, more, way, e)
			}
			if way < f.way {
				stronger++
			}
			for k := range w.books {
				less := slices.Delete(slices.Clone(w.books), k, k+1)
				_, way, e := shelf.Walk(q.SfRoom, less, w.carry)
				if e != api.OK || way > f.way {
					t.Errorf("%v: Walk of %v = %v, of %v %d, %d", q.SfRoom, w, f, less, way, e)
				}
				if way < f.way {
					fewer++
				}
			}
		}
	})
	if stronger < 500 || fewer < 2000 {
		t.Errorf("%d times a longer way with less to carry, %d times with more books", stronger, fewer)
	}
}

// P9.15: what is spare on all shelves, and the width of all books, is the width of all shelves; none is spare below 0.
func TestSpareSum(t *testing.T) {
	asks(func(q question, x told) {
		spare, shelves := 0, 0
		for _, n := range x.spare {
			spare += n
		}
		for _, b := range q.Books {
			spare += b.Wide
		}
		for _, s := range q.Shelves {
			shelves += s.Wide
		}
		if spare != shelves || len(x.spare) != len(q.Shelves) || slices.Min(x.spare) < 0 {
			t.Errorf("%v: Spare = %v", q.SfRoom, x.spare)
		}
	})
}
