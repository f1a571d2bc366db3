package reader_test

import (
	"math/rand"
	"slices"
	"testing"

	"duodecimo/api"
	"duodecimo/reader"
)

// P10.7: at the seats of Seats no book is of a higher class than the permit, none is large at a small seat, and no seat, reader or book is there twice.
func TestAllowed(t *testing.T) {
	t.Parallel()
	seated := 0
	asks(func(q question, x told) {
		for i, some := range allParts()[len(q.Requests)] {
			s := x.seats[i]
			if s.e != api.OK {
				continue
			}
			if len(s.seats) != len(some) {
				t.Errorf("%v: Seats of %v = %v", q.RdRoom, some, s)
				continue
			}
			taken := map[[2]int]bool{}
			for k, n := range some {
				request, seat := q.Requests[n], q.Seats[s.seats[k]]
				b := q.Books[request.Book]
				if b.Class > q.Readers[request.Reader].Permit || b.Large && seat.Small {
					t.Errorf("%v: Seats of %v = %v", q.RdRoom, some, s)
				}
				taken[[2]int{0, s.seats[k]}], taken[[2]int{1, request.Book}], taken[[2]int{2, request.Reader}] = true, true, true
			}
			if len(taken) != 3*len(some) {
				t.Errorf("%v: Seats of %v = %v", q.RdRoom, some, s)
			}
			seated += len(some)
		}
	})
	if seated < 20000 {
		t.Errorf("just %d requests have seats", seated)
	}
}

// P10.7: in any truth of the books' light none is read beyond it, as Left says of the seats of Seats.
func TestNobodysLight(t *testing.T) {
	t.Parallel()
	r := seed(107)
	read := 0
	asks(func(q question, x told) {
		for i, some := range allParts()[len(q.Requests)] {
			s := x.seats[i]
			if s.e != api.OK || i%5 > 0 {
				continue
			}
			l := left(q.RdRoom, sitting{some, s.seats})
			if l.e != api.OK || len(l.spans) != len(q.Books) {
				t.Errorf("%v: Left of %v at %v = %v", q.RdRoom, some, s.seats, l)
				continue
			}
			light := 0
			for k, b := range q.Books {
				used := b.Light.Lo - l.spans[k].Lo
				truth := b.Light.Lo + r.Intn(b.Light.Hi-b.Light.Lo+1)
				if used < 0 || truth-used < 0 || l.spans[k].Hi != b.Light.Hi-used {
					t.Errorf("%v: Left of %v at %v = %v", q.RdRoom, some, s.seats, l)
				}
				light += used
				if used > 0 {
					read++
				}
			}
			if light != s.light {
				t.Errorf("%v: Left of %v at %v = %v, but Seats = %v", q.RdRoom, some, s.seats, l, s)
			}
		}
	})
	if read < 5000 {
		t.Errorf("just %d books are read", read)
	}
}

// places are all lists of so many of the first numbers, none there twice, in their order.
func places(some, many int) [][]int {
	all := [][]int{nil}
	for range some {
		var longer [][]int
		for _, l := range all {
			for n := range many {
				if !slices.Contains(l, n) {
					longer = append(longer, append(slices.Clone(l), n))
				}
			}
		}
		all = longer
	}
	return all
}

// P10.8: any seats at which requests can be granted, by Left, have no less light than those of Seats, or as much, and come behind; if there are none, the requests cannot be granted together.
func TestLeastLight(t *testing.T) {
	t.Parallel()
	r := seed(108)
	more, none := 0, 0
	asks(func(q question, x told) {
		if len(q.Requests) == 0 || len(q.Seats) == 0 || r.Intn(4) > 0 {
			return
		}
		all := allParts()[len(q.Requests)]
		for range 3 {
			i := r.Intn(len(all))
			if len(all[i]) > 4 {
				continue
			}
			s := x.seats[i]
			if x.can[i] != (s.e == api.OK) {
				t.Errorf("%v: Can of %v = %t, but Seats = %v", q.RdRoom, all[i], x.can[i], s)
			}
			found := false
			for _, seats := range places(len(all[i]), len(q.Seats)) {
				l := left(q.RdRoom, sitting{all[i], seats})
				if l.e != api.OK {
					none++
					continue
				}
				found = found || slices.Equal(seats, s.seats)
				light := lights(q.RdRoom, sitting{all[i], seats})
				if s.e != api.OK || light < s.light || light == s.light && !found {
					t.Errorf("%v: Seats of %v = %v, not %v", q.RdRoom, all[i], s, seats)
				}
				if light > s.light {
					more++
				}
			}
			if found != (s.e == api.OK) {
				t.Errorf("%v: Seats of %v = %v", q.RdRoom, all[i], s)
			}
		}
	})
	if more < 1000 || none < 5000 {
		t.Errorf("just %d seats have more light, %d are not possible", more, none)
	}
}

// P10.9: the requests of Turn can be granted together; any other one cannot be granted together with those of Turn before it.
func TestInTurn(t *testing.T) {
	t.Parallel()
	others := 0
	asks(func(q question, x told) {
		if !x.can[indexOf(q, x.turn)] {
			t.Errorf("%v: Turn = %v", q.RdRoom, x.turn)
		}
		for n := range q.Requests {
			if slices.Contains(x.turn, n) {
				continue
			}
			before := slices.DeleteFunc(slices.Clone(x.turn), func(m int) bool { return m > n })
			if x.can[indexOf(q, with(before, n))] {
				t.Errorf("%v: Turn = %v, without %d", q.RdRoom, x.turn, n)
			}
			others++
		}
	})
	if others < 2000 {
		t.Errorf("just %d requests are left by Turn", others)
	}
}

// P10.10: the requests of Best can be granted together, and are worth what it says; none are worth more, or as much, and come before; Turn is worth no more.
func TestWorthMost(t *testing.T) {
	t.Parallel()
	less := 0
	asks(func(q question, x told) {
		if x.best.e != api.OK || !x.can[indexOf(q, x.best.requests)] || worthOf(q.RdRoom, x.best.requests) != x.best.worth || worthOf(q.RdRoom, x.turn) > x.best.worth {
			t.Errorf("%v: Best = %v; Turn = %v", q.RdRoom, x.best, x.turn)
		}
		for i, some := range allParts()[len(q.Requests)] {
			if !x.can[i] {
				continue
			}
			worth := worthOf(q.RdRoom, some)
			if worth > x.best.worth || worth == x.best.worth && slices.Compare(some, x.best.requests) < 0 {
				t.Errorf("%v: Best = %v, not %v", q.RdRoom, x.best, some)
			}
			if worth < x.best.worth {
				less++
			}
		}
	})
	if less < 10000 {
		t.Errorf("just %d lists are worth less", less)
	}
}

// P10.11: without those that Gives names the others can be granted together with the request; without any fewer, or as many that come before, they cannot.
func TestGivenUp(t *testing.T) {
	t.Parallel()
	fewer := 0
	asks(func(q question, x told) {
		together := func(w wish, some []int) bool {
			return x.can[indexOf(q, with(without(w.granted, some), w.request))]
		}
		for i, w := range q.wishes {
			g := x.gives[i]
			if possible := x.can[indexOf(q, w.granted)] && x.can[indexOf(q, list(w.request))]; (g.e == api.OK) != possible {
				t.Errorf("%v: Gives of %v = %v", q.RdRoom, w, g)
			}
			if g.e != api.OK {
				continue
			}
			if !together(w, g.requests) || len(without(g.requests, w.granted)) > 0 {
				t.Errorf("%v: Gives of %v = %v", q.RdRoom, w, g)
			}
			for _, some := range parts(w.granted) {
				if len(some) > len(g.requests) || len(some) == len(g.requests) && slices.Compare(some, g.requests) >= 0 {
					continue
				}
				if together(w, some) {
					t.Errorf("%v: Gives of %v = %v, not %v", q.RdRoom, w, g, some)
				}
				fewer++
			}
		}
	})
	if fewer < 2000 {
		t.Errorf("just %d lists are fewer", fewer)
	}
}

// P10.12: of requests that can be granted together any part can be.
func TestParts(t *testing.T) {
	t.Parallel()
	asks(func(q question, x told) {
		for i, some := range allParts()[len(q.Requests)] {
			if !x.can[i] {
				continue
			}
			for _, n := range some {
				if k := indexOf(q, without(some, list(n))); !x.can[k] || x.seats[k].light > x.seats[i].light {
					t.Errorf("%v: Seats of %v = %v, without %d %v", q.RdRoom, some, x.seats[i], n, x.seats[k])
				}
			}
		}
	})
}

// easier is a room with one more seat, a greater permit, more light of a book, or fewer hours of a request; or the same room, if there is no such thing.
func easier(r *rand.Rand, x api.RdRoom) api.RdRoom {
	x = cloned(x)
	switch more := oneOf(r, 1, 5, 100); {
	case r.Intn(3) == 0 && len(x.Seats) < api.MaxRdSeats:
		x.Seats = slices.Insert(x.Seats, r.Intn(len(x.Seats)+1), someSeat(r, true))
	case r.Intn(3) == 0 && len(x.Readers) > 0:
		p := &x.Readers[r.Intn(len(x.Readers))].Permit
		*p = min(api.MaxRdClass, *p+more)
	case r.Intn(2) == 0 && len(x.Books) > 0:
		l := &x.Books[r.Intn(len(x.Books))].Light
		l.Lo = min(api.MaxRdLight, l.Lo+more)
		l.Hi = max(l.Lo, l.Hi)
	case len(x.Requests) > 0:
		h := &x.Requests[r.Intn(len(x.Requests))].Hours
		*h = max(1, *h-more)
	}
	return x
}

// P10.12: with one more seat, a greater permit, more light of a book, or fewer hours requests still can be granted together; Best is worth no less.
func TestEasier(t *testing.T) {
	t.Parallel()
	r := seed(112)
	better, possible := 0, 0
	asks(func(q question, x told) {
		for range 3 {
			room := easier(r, q.RdRoom)
			if b := best(room); b.e != api.OK || b.worth < x.best.worth {
				t.Errorf("%v: Best = %v, was %v", room, b, x.best)
			} else if b.worth > x.best.worth {
				better++
			}
			all := allParts()[len(q.Requests)]
			for range 10 {
				i := r.Intn(len(all))
				can, e := reader.Can(room, all[i])
				if e != api.OK || x.can[i] && !can {
					t.Errorf("%v: Can of %v = %t, %d", room, all[i], can, e)
				}
				if can && !x.can[i] {
					possible++
				}
			}
		}
	})
	if better < 300 || possible < 500 {
		t.Errorf("%d times Best is worth more, %d times more can be granted", better, possible)
	}
}

// P10.13: with the light of any book known to be its most, Best is worth at most what Ask says more; with that of Ask's book just this, and with that of those before it less.
func TestMeasured(t *testing.T) {
	t.Parallel()
	helped := 0
	asks(func(q question, x told) {
		if x.ask.e != api.OK && (x.ask.e != api.ErrNone || x.ask.book != 0 || x.ask.more != 0) || x.ask.e == api.OK && x.ask.more <= 0 {
			t.Errorf("%v: Ask = %v", q.RdRoom, x.ask)
		}
		for i := range q.Books {
			more := best(known(q.RdRoom, i)).worth - x.best.worth
			if more < 0 || more > x.ask.more || x.ask.e == api.OK && (i == x.ask.book && more != x.ask.more || i < x.ask.book && more == x.ask.more) {
				t.Errorf("%v: Ask = %v, but with %d known %d more", q.RdRoom, x.ask, i, more)
			}
			if more > 0 {
				helped++
			}
		}
	})
	if helped < 100 {
		t.Errorf("just %d books help if they are known", helped)
	}
}

// shuffled are the numbers below many in some order, and where each of them is there.
func shuffled(r *rand.Rand, many int) (order, at []int) {
	order, at = r.Perm(many), make([]int, many)
	for i, n := range order {
		at[n] = i
	}
	return order, at
}

// P10.14: if the seats, or the books, are put in another order, what can be granted is the same, with as much light, and so are Turn, Best and Gives.
func TestOrder(t *testing.T) {
	t.Parallel()
	r := seed(114)
	asks(func(q question, x told) {
		seatOrder, seatAt := shuffled(r, len(q.Seats))
		bookOrder, bookAt := shuffled(r, len(q.Books))
		if r.Intn(2) == 0 {
			seatOrder, seatAt = upTo(len(q.Seats)), upTo(len(q.Seats))
		}
		room := cloned(q.RdRoom)
		room.Seats, room.Books = taken(q.Seats, seatOrder), taken(q.Books, bookOrder)
		for i := range room.Requests {
			room.Requests[i].Book = bookAt[q.Requests[i].Book]
		}
		y := tell(question{room, nil, q.wishes})
		for i := range x.seats {
			if x.can[i] != y.can[i] || x.seats[i].light != y.seats[i].light || x.seats[i].e != y.seats[i].e {
				t.Errorf("%v: %v, was %v", room, y.seats[i], x.seats[i])
			}
		}
		if !alike(x.turn, y.turn) || !alike(x.best, y.best) || !alike(x.gives, y.gives) || x.ask.more != y.ask.more || x.ask.e != y.ask.e {
			t.Errorf("%v: %v, was %v", room, y, x)
		}
		for i, s := range q.sittings {
			l := left(room, sitting{s.requests, taken(seatAt, s.seats)})
			if want := (spared{taken(x.left[i].spans, bookOrder[:len(x.left[i].spans)]), x.left[i].e}); !alike(l, want) {
				t.Errorf("%v: Left of %v = %v, not %v", room, s, l, want)
			}
		}
	})
}
