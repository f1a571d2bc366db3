package reader_test

import (
	"slices"
	"testing"

	"duodecimo/api"
	"duodecimo/reader"
)

// P10.2 to P10.6: all that is told of each case is so by going through all mornings.
func TestTold(t *testing.T) {
	t.Parallel()
	models := inAll(len(cases()), func(i int) told { return modelled(cases()[i]) })
	for i, q := range cases() {
		if x, y := answers()[i], models[i]; differ(x, y) != "" {
			t.Errorf("%d: %v: %s: %v, not %v", i, q, differ(x, y), x, y)
		}
	}
}

// kinds counts things of each kind.
type kinds map[string]int

// count counts a thing if it is of a kind.
func (k kinds) count(kind string, isSo bool) {
	if isSo {
		k[kind]++
	}
}

// countWhy counts what is so of requests at seats.
func (k kinds) countWhy(q question) {
	for i, request := range q.Requests {
		b := q.Books[request.Book]
		for n, s := range q.Seats {
			why := whyOf(q.RdRoom, i, n)
			light := lightOf(q.RdRoom, i, n)
			k.count("good", why == api.RdGood)
			k.count("good, with all light of the book", why == api.RdGood && light == b.Light.Lo && light > 0)
			k.count("a permit is missing, only", why == api.RdPermit && light <= b.Light.Lo && !(b.Large && s.Small))
			k.count("a permit is missing, and more", why == api.RdPermit && light > b.Light.Lo && b.Large && s.Small)
			k.count("too large, only", why == api.RdLarge && light <= b.Light.Lo)
			k.count("too large, and dark", why == api.RdLarge && light > b.Light.Lo)
			k.count("dark by one", why == api.RdDark && light == b.Light.Lo+1)
			k.count("dark, but perhaps not", why == api.RdDark && light <= b.Light.Hi)
			k.count("dark in any case", why == api.RdDark && light > b.Light.Hi)
			k.count("small, and good", why == api.RdGood && s.Small)
			k.count("large, and good", why == api.RdGood && b.Large)
		}
	}
}

// countSeats counts what is so of lists of requests.
func (k kinds) countSeats(q question, x told) {
	for i, some := range allParts()[len(q.Requests)] {
		s, first, ways, least := x.seats[i], 0, 0, 0
		room := wanting(q.RdRoom, taken(q.Requests, some)...)
		mornings(room, func(m sitting) {
			if len(m.requests) < len(some) {
				return
			}
			light := lights(room, m)
			if ways == 0 {
				first = light
			}
			ways++
			if light == s.light {
				least++
			}
		})
		k.count("no requests", len(some) == 0)
		k.count("not together", s.e == api.ErrDown)
		k.count("not together, but each two", s.e == api.ErrDown && len(some) > 2 && eachTwo(q, x, some))
		k.count("as many as seats", s.e == api.OK && len(some) == len(q.Seats) && len(some) > 1)
		k.count("six together", s.e == api.OK && len(some) == api.MaxRdSeats)
		k.count("just one way to sit", ways == 1 && len(some) > 1)
		k.count("several ways with the least light", least > 1)
		k.count("less light than with the first way", ways > 1 && s.light < first)
		k.count("seats not ascending", s.e == api.OK && !slices.IsSorted(s.seats))
	}
}

// taken are some of a list of things, by their indices.
func taken[T any](things []T, indices []int) []T {
	var some []T
	for _, i := range indices {
		some = append(some, things[i])
	}
	return some
}

// eachTwo reports whether each two of some requests can be granted together.
func eachTwo(q question, x told, some []int) bool {
	for _, pair := range parts(some) {
		if i := indexOf(q, pair); len(pair) == 2 && !x.can[i] {
			return false
		}
	}
	return true
}

// indexOf is where a list of requests is among all of them.
func indexOf(q question, some []int) int {
	return slices.IndexFunc(allParts()[len(q.Requests)], func(part []int) bool { return slices.Equal(part, some) })
}

// countRoom counts what is so of a room.
func (k kinds) countRoom(q question, x told) {
	k.count("largest", len(q.Books) == api.MaxRdBooks && len(q.Readers) == api.MaxRdReaders && len(q.Seats) == api.MaxRdSeats && len(q.Requests) == api.MaxRdRequests)
	k.count("no seat, with requests", len(q.Seats) == 0 && len(q.Requests) > 0)
	k.count("no request", len(q.Requests) == 0)
	k.count("nothing granted", len(x.turn) == 0 && len(q.Requests) > 0 && len(q.Seats) > 0)
	k.count("all granted", len(x.turn) == len(q.Requests) && len(x.turn) > 1)
	k.count("turn leaves the first one", len(x.turn) > 0 && x.turn[0] > 0)
	k.count("turn grants one behind one that is left", len(x.turn) > 1 && x.turn[len(x.turn)-1] >= len(x.turn))
	k.count("turn is not the best", worthOf(q.RdRoom, x.turn) < x.best.worth)
	k.count("the best is not of the most requests", len(x.best.requests) < len(x.turn))
	as := 0
	for i, some := range allParts()[len(q.Requests)] {
		if x.can[i] && worthOf(q.RdRoom, some) == x.best.worth {
			as++
		}
	}
	k.count("several are worth most", as > 1 && x.best.worth > 0)
	k.count("a request that is worth nothing is among the best", slices.ContainsFunc(x.best.requests, func(n int) bool { return q.Requests[n].Worth == 0 }))
	k.count("ask for the first book", x.ask.e == api.OK && x.ask.book == 0)
	k.count("ask for another book", x.ask.book > 0)
	k.count("ask for none", x.ask.e == api.ErrNone && len(x.turn) > 0)
	k.count("nothing granted, but ask", x.ask.e == api.OK && len(x.best.requests) == 0)
}

// countAsked counts what is so of sittings and wishes.
func (k kinds) countAsked(q question, x told) {
	for i, s := range q.sittings {
		k.count("left", x.left[i].e == api.OK && len(s.requests) > 0)
		k.count("left, of several", x.left[i].e == api.OK && len(s.requests) > 2)
		k.count("not left", x.left[i].e == api.ErrDown)
		good := true
		for n, request := range s.requests {
			good = good && whyOf(q.RdRoom, request, s.seats[n]) == api.RdGood
		}
		k.count("not left, each one good", x.left[i].e == api.ErrDown && good)
		k.count("nothing left of a book", slices.ContainsFunc(x.left[i].spans, func(l api.Span) bool { return l == span(0, 0) }))
	}
	for i, w := range q.wishes {
		g := x.gives[i]
		k.count("none is given up", g.e == api.OK && len(g.requests) == 0 && len(w.granted) > 0)
		k.count("one is given up", len(g.requests) == 1 && len(w.granted) > 1)
		k.count("not the first one is given up", len(g.requests) == 1 && g.requests[0] != w.granted[0])
		k.count("two are given up", len(g.requests) == 2 && len(w.granted) > 2)
		k.count("none can be kept", len(g.requests) == len(w.granted) && len(w.granted) > 1)
		k.count("the request alone cannot be granted", g.e == api.ErrDown && !x.can[indexOf(q, list(w.request))])
		k.count("those that are granted cannot be", g.e == api.ErrDown && !x.can[indexOf(q, w.granted)] && x.can[indexOf(q, list(w.request))])
		k.count("none was granted", len(w.granted) == 0)
	}
}

// Among the cases are enough of each kind.
func TestCases(t *testing.T) {
	t.Parallel()
	k := kinds{}
	for i, q := range cases() {
		x := answers()[i]
		k.countWhy(q)
		k.countRoom(q, x)
		k.countAsked(q, x)
		if i%10 == 0 {
			k.countSeats(q, x)
		}
	}
	for _, kind := range []string{
		"good", "good, with all light of the book", "a permit is missing, only", "a permit is missing, and more", "too large, only", "too large, and dark", "dark by one", "dark, but perhaps not", "dark in any case", "small, and good", "large, and good",
		"no requests", "not together", "not together, but each two", "as many as seats", "six together", "just one way to sit", "several ways with the least light", "less light than with the first way", "seats not ascending",
		"largest", "no seat, with requests", "no request", "nothing granted", "all granted", "turn leaves the first one", "turn grants one behind one that is left", "turn is not the best", "the best is not of the most requests", "several are worth most", "a request that is worth nothing is among the best",
		"ask for the first book", "ask for another book", "ask for none", "nothing granted, but ask",
		"left", "left, of several", "not left", "not left, each one good", "nothing left of a book",
		"none is given up", "one is given up", "not the first one is given up", "two are given up", "none can be kept", "the request alone cannot be granted", "those that are granted cannot be", "none was granted",
	} {
		if k[kind] < 20 {
			t.Errorf("%s: %d", kind, k[kind])
		}
	}
	t.Log(k)
}

// The chapter's examples, one by one.
func TestExamples(t *testing.T) {
	r := example()
	for _, x := range []struct{ request, seat, want int }{{0, window, api.RdDark}, {0, small, api.RdLarge}, {0, plain, api.RdGood}, {3, small, api.RdPermit}} {
		if why, e := reader.Why(r, x.request, x.seat); why != x.want || e != api.OK {
			t.Errorf("Why of %d at %d = %d, %d", x.request, x.seat, why, e)
		}
	}
	for _, x := range []struct {
		requests []int
		want     bool
	}{{list(0, 1), true}, {list(0, 2), false}, {list(0, 4), false}} {
		if can, e := reader.Can(r, x.requests); can != x.want || e != api.OK {
			t.Errorf("Can of %v = %t, %d", x.requests, can, e)
		}
	}
	expect(t, "Seats of 0, 1", seats(r, list(0, 1)), seated{list(plain, small), 38, api.OK})
	expect(t, "Seats of 1, 2", seats(r, list(1, 2)), seated{list(plain, small), 42, api.OK})
	expect(t, "Seats of 3", seats(r, list(3)), seated{e: api.ErrDown})
	expect(t, "Left of 0, 1", left(r, sitting{list(0, 1), list(plain, small)}), spared{[]api.Span{span(10, 30), span(2, 2), span(200, 200)}, api.OK})
	turn, e := reader.Turn(r)
	if !slices.Equal(turn, list(0, 1)) || e != api.OK {
		t.Errorf("Turn = %v, %d", turn, e)
	}
	expect(t, "Best", best(r), chosen{list(0, 1), 50, api.OK})
	expect(t, "Gives for 2", gives(r, wish{list(0, 1), 2}), given{list(0), api.OK})
	expect(t, "Gives for 4", gives(r, wish{list(0, 1), 4}), given{list(0, 1), api.OK})
	expect(t, "Gives for 3", gives(r, wish{list(0, 1), 3}), given{e: api.ErrDown})
	expect(t, "Ask", asked(r), advised{e: api.ErrNone})
	expect(t, "Best at the window", best(windowAlone()), chosen{list(4), 15, api.OK})
	expect(t, "Ask at the window", asked(windowAlone()), advised{0, 5, api.OK})
	expect(t, "Best at the window, if the atlas can have 60", best(known(windowAlone(), 0)), chosen{list(0), 20, api.OK})
}

// P10.2: the first reason that applies counts; all light of a book can be used, and one more cannot.
func TestWhy(t *testing.T) {
	for i, x := range []struct {
		class, permit int
		large, small  bool
		lo, hours     int
		light, want   int
	}{
		{0, 0, false, false, 0, 12, 0, api.RdGood}, {5, 5, true, false, 0, 1, 0, api.RdGood}, {5, 5, false, true, 0, 1, 0, api.RdGood}, {0, 5, false, false, 1000, 10, 100, api.RdGood}, {0, 5, false, false, 1000, 11, 91, api.RdDark}, {0, 5, false, false, 1000, 12, 100, api.RdDark},
		{3, 2, false, false, 0, 1, 0, api.RdPermit}, {3, 2, true, true, 0, 1, 1, api.RdPermit}, {3, 2, true, true, 1000, 1, 1, api.RdPermit}, {3, 2, false, false, 0, 1, 1, api.RdPermit}, {3, 3, true, true, 0, 1, 1, api.RdLarge}, {3, 3, true, true, 1000, 1, 1, api.RdLarge}, {3, 3, false, true, 0, 1, 1, api.RdDark}, {3, 3, true, false, 0, 1, 1, api.RdDark}, {3, 4, false, false, 0, 1, 1, api.RdDark},
		{3, 3, false, false, 35, 5, 7, api.RdGood}, {3, 3, false, false, 34, 5, 7, api.RdDark}, {3, 3, true, false, 35, 7, 5, api.RdGood}, {3, 3, false, true, 34, 7, 5, api.RdDark},
	} {
		r := api.RdRoom{
			Books:    []api.RdBook{book("a", 0, 1000, 1000, false), book("b", x.class, x.lo, 1000, x.large)},
			Readers:  []api.RdReader{{Name: "a"}, {Name: "b"}, {Name: "c", Permit: x.permit}},
			Seats:    []api.RdSeat{{Light: 99}, {Light: 98}, {Light: 97}, {Light: x.light, Small: x.small}},
			Requests: []api.RdRequest{ask(0, 0, 12, 0), ask(2, 1, x.hours, 0)},
		}
		if why, e := reader.Why(r, 1, 3); why != x.want || e != api.OK {
			t.Errorf("%d: Why = %d, %d", i, why, e)
		}
	}
}

// P10.2, P10.3: seats are given so that as many as there are can sit; the first seats of those with the least light are told.
func TestSeats(t *testing.T) {
	// The reader 0 can sit anywhere, 1 at the last two seats, 2 just at the last one.
	steps := bearing(lit(free(0, 1, 1, 1), 30, 20, 10), span(30, 30), span(40, 99), span(30, 99))
	for i, x := range []struct {
		r        api.RdRoom
		requests []int
		want     seated
	}{
		{api.RdRoom{}, nil, seated{}}, {example(), nil, seated{}}, {free(0, 1), list(0), seated{e: api.ErrDown}}, {free(1, 1, 2), list(1), seated{list(0), 0, api.OK}}, {free(1, 1, 2), list(0, 1), seated{e: api.ErrDown}},
		{steps, list(0), seated{list(2), 10, api.OK}}, {steps, list(1), seated{list(2), 20, api.OK}}, {steps, list(2), seated{list(2), 30, api.OK}},
		{steps, list(0, 1), seated{list(1, 2), 40, api.OK}}, {steps, list(0, 2), seated{list(1, 2), 50, api.OK}}, {steps, list(1, 2), seated{list(1, 2), 70, api.OK}}, {steps, list(0, 1, 2), seated{list(0, 1, 2), 100, api.OK}},
		{lit(steps, 20, 10), list(0, 1, 2), seated{e: api.ErrDown}}, {lit(steps, 10, 20, 30), list(0, 1, 2), seated{list(2, 1, 0), 100, api.OK}}, {lit(steps, 0, 0, 0, 0), list(0, 1, 2), seated{list(0, 1, 2), 0, api.OK}}, {lit(steps, 5, 0, 5, 0), list(0, 1, 2), seated{list(0, 1, 3), 5, api.OK}},
		{alikeRoom(6), list(0, 1, 2, 3, 4, 5), seated{list(0, 1, 2, 3, 4, 5), 0, api.OK}}, {alikeRoom(6), list(2, 3, 4, 5, 6, 7), seated{list(0, 1, 2, 3, 4, 5), 0, api.OK}}, {alikeRoom(6), list(0, 1, 2, 3, 4, 5, 6), seated{e: api.ErrDown}},
		{full(), list(0, 1, 2, 3, 4, 5), seated{list(5, 4, 3, 2, 1, 0), 56, api.OK}}, {full(), list(7), seated{list(0), 8, api.OK}}, {bright(), list(0, 2, 7), seated{list(0, 1, 2), 300, api.OK}},
		{wanting(free(4, 1, 1), ask(0, 0, 1, 1), ask(0, 1, 1, 1)), list(0, 1), seated{e: api.ErrDown}}, {wanting(free(4, 1, 1), ask(0, 1, 1, 1), ask(1, 1, 1, 1)), list(0, 1), seated{e: api.ErrDown}}, {wanting(free(4, 1, 1), ask(0, 1, 1, 1), ask(1, 0, 1, 1)), list(0, 1), seated{list(0, 1), 0, api.OK}},
		{wanting(free(4, 1, 1), ask(0, 1, 1, 1), ask(0, 1, 1, 1)), list(0, 1), seated{e: api.ErrDown}}, {wanting(free(4, 1, 1), ask(0, 1, 1, 1), ask(0, 1, 1, 1)), list(1), seated{list(0), 0, api.OK}}, {wanting(free(4, 1, 1, 1), ask(0, 1, 1, 1), ask(1, 2, 1, 1), ask(2, 1, 1, 1)), list(0, 1, 2), seated{e: api.ErrDown}},
	} {
		expect(t, "Seats "+string(rune('a'+i)), seats(x.r, x.requests), x.want)
		can, e := reader.Can(x.r, x.requests)
		if can != (x.want.e == api.OK) || e != api.OK {
			t.Errorf("%d: Can = %t, %d", i, can, e)
		}
	}
}

// P10.3: of each book, also of those that nobody has; both ends are less by as much.
func TestLeft(t *testing.T) {
	r := bearing(lit(free(0, 1, 1, 1), 30, 20, 10), span(30, 30), span(40, 99), span(30, 999))
	for i, x := range []struct {
		r    api.RdRoom
		s    sitting
		want spared
	}{
		{api.RdRoom{}, sitting{}, spared{}}, {r, sitting{}, spared{[]api.Span{span(30, 30), span(40, 99), span(30, 999)}, api.OK}}, {r, sitting{list(0, 1, 2), list(0, 1, 2)}, spared{[]api.Span{span(0, 0), span(0, 59), span(0, 969)}, api.OK}}, {r, sitting{list(0), list(2)}, spared{[]api.Span{span(20, 20), span(40, 99), span(30, 999)}, api.OK}},
		{r, sitting{list(1, 2), list(1, 2)}, spared{[]api.Span{span(30, 30), span(0, 59), span(0, 969)}, api.OK}}, {r, sitting{list(1, 2), list(2, 1)}, spared{e: api.ErrDown}}, {r, sitting{list(0, 1), list(1, 0)}, spared{e: api.ErrDown}}, {r, sitting{list(0, 1), list(0, 2)}, spared{[]api.Span{span(0, 0), span(20, 79), span(30, 999)}, api.OK}},
		{wanting(r, ask(0, 1, 1, 1), ask(0, 0, 1, 1)), sitting{list(0, 1), list(1, 2)}, spared{e: api.ErrDown}}, {wanting(r, ask(0, 1, 1, 1), ask(2, 1, 1, 1)), sitting{list(0, 1), list(1, 2)}, spared{e: api.ErrDown}}, {wanting(r, ask(0, 1, 1, 1), ask(1, 0, 1, 1)), sitting{list(0, 1), list(1, 2)}, spared{[]api.Span{span(20, 20), span(20, 79), span(30, 999)}, api.OK}},
		{wanting(r, ask(0, 1, 1, 1), ask(2, 1, 1, 1)), sitting{list(1), list(0)}, spared{[]api.Span{span(30, 30), span(10, 69), span(30, 999)}, api.OK}},
	} {
		expect(t, "Left "+string(rune('a'+i)), left(x.r, x.s), x.want)
	}
}

// P10.4: requests are granted in their order, whatever seats the earlier ones need then; others are worth more.
func TestTurnBest(t *testing.T) {
	steps := bearing(lit(free(0, 5, 6, 7), 30, 20, 10), span(30, 30), span(40, 99), span(30, 99))
	for i, x := range []struct {
		r    api.RdRoom
		turn []int
		best chosen
	}{
		{api.RdRoom{}, nil, chosen{}}, {free(3), nil, chosen{}}, {free(0, 1, 2), nil, chosen{}}, {free(1, 1, 2, 3), list(0), chosen{list(2), 3, api.OK}}, {free(1, 3, 2, 3), list(0), chosen{list(0), 3, api.OK}}, {free(2, 1, 2, 3), list(0, 1), chosen{list(1, 2), 5, api.OK}},
		{free(2, 0, 0, 0), list(0, 1), chosen{}}, {free(3, 0, 5, 0), list(0, 1, 2), chosen{list(0, 1), 5, api.OK}}, {free(3, 5, 0, 0), list(0, 1, 2), chosen{list(0), 5, api.OK}}, {free(2, 0, 0, 5), list(0, 1), chosen{list(0, 2), 5, api.OK}}, {free(3, 0, 0, 5), list(0, 1, 2), chosen{list(0, 1, 2), 5, api.OK}}, {free(1, 0, 0, 5), list(0), chosen{list(2), 5, api.OK}},
		{steps, list(0, 1, 2), chosen{list(0, 1, 2), 18, api.OK}}, {lit(steps, 20, 10), list(0, 1), chosen{list(1, 2), 13, api.OK}}, {lit(steps, 30, 10), list(0, 1), chosen{list(0, 2), 12, api.OK}}, {lit(steps, 10, 10), list(0, 1), chosen{list(1, 2), 13, api.OK}}, {lit(steps, 30, 30), list(0), chosen{list(0), 5, api.OK}}, {lit(steps, 31), nil, chosen{}},
		{full(), list(0, 1, 2, 3, 4, 5), chosen{list(0, 1, 2, 3, 4, 5), 33, api.OK}}, {alikeRoom(6), list(0, 1, 2, 3, 4, 5), chosen{list(0, 1, 2, 3, 4, 5), 30, api.OK}}, {alikeRoom(1), list(0), chosen{list(0), 5, api.OK}},
		{wanting(free(4, 1, 1, 1), ask(0, 0, 1, 4), ask(0, 1, 1, 2), ask(1, 0, 1, 2), ask(2, 2, 1, 0)), list(0, 3), chosen{list(0), 4, api.OK}}, {wanting(free(4, 1, 1, 1), ask(0, 0, 1, 4), ask(0, 1, 1, 2), ask(1, 0, 1, 3), ask(2, 2, 1, 0)), list(0, 3), chosen{list(1, 2), 5, api.OK}},
		{wanting(free(4, 1, 1), ask(0, 0, 1, 2), ask(1, 0, 1, 1), ask(0, 1, 1, 1), ask(1, 1, 1, 0)), list(0, 3), chosen{list(0), 2, api.OK}},
	} {
		turn, e := reader.Turn(x.r)
		if !slices.Equal(turn, x.turn) || e != api.OK {
			t.Errorf("%d: Turn = %v, %d", i, turn, e)
		}
		expect(t, "Best "+string(rune('a'+i)), best(x.r), x.best)
	}
}

// P10.5: the fewest are given up, the first ones of as many; none, if there is a seat for all.
func TestGives(t *testing.T) {
	steps := bearing(lit(free(0, 5, 6, 7), 30, 20, 10), span(30, 30), span(40, 99), span(30, 99))
	rivals := wanting(free(6, 1, 1, 1, 1), ask(0, 0, 1, 1), ask(1, 1, 1, 1), ask(2, 2, 1, 1), ask(1, 2, 1, 1), ask(3, 3, 1, 1), ask(3, 0, 1, 1))
	for i, x := range []struct {
		r    api.RdRoom
		w    wish
		want given
	}{
		{free(1, 1, 1), wish{nil, 0}, given{}}, {free(2, 1, 1), wish{list(0), 1}, given{}}, {free(1, 1, 1), wish{list(0), 1}, given{list(0), api.OK}}, {free(1, 1, 1), wish{list(1), 0}, given{list(1), api.OK}}, {free(2, 1, 1, 1), wish{list(0, 1), 2}, given{list(0), api.OK}}, {free(2, 1, 1, 1), wish{list(1, 2), 0}, given{list(1), api.OK}},
		{steps, wish{list(0, 1), 2}, given{}}, {lit(steps, 20, 10), wish{list(0, 1), 2}, given{list(0), api.OK}}, {lit(steps, 30, 10), wish{list(0, 1), 2}, given{list(1), api.OK}}, {lit(steps, 30, 10), wish{list(0, 2), 1}, given{list(2), api.OK}}, {lit(steps, 20, 10), wish{list(1, 2), 0}, given{list(1), api.OK}}, {lit(steps, 30, 10), wish{list(2), 1}, given{list(2), api.OK}}, {lit(steps, 30), wish{nil, 1}, given{e: api.ErrDown}}, {lit(steps, 30), wish{list(1), 0}, given{e: api.ErrDown}}, {lit(steps, 30), wish{list(1), 2}, given{e: api.ErrDown}}, {lit(steps, 20, 20), wish{list(0, 1), 2}, given{e: api.ErrDown}},
		{rivals, wish{list(0, 1, 2), 3}, given{list(1, 2), api.OK}}, {rivals, wish{list(0, 1, 2), 4}, given{}}, {rivals, wish{list(0, 1, 2), 5}, given{list(0), api.OK}}, {rivals, wish{list(0, 1, 2, 4), 5}, given{list(0, 4), api.OK}}, {rivals, wish{list(0, 3), 2}, given{list(3), api.OK}}, {rivals, wish{list(3, 5), 0}, given{list(5), api.OK}}, {rivals, wish{list(1, 3), 0}, given{e: api.ErrDown}}, {rivals, wish{list(4, 5), 0}, given{e: api.ErrDown}},
		{full(), wish{list(0, 1, 2, 3, 4, 5), 7}, given{list(0), api.OK}}, {full(), wish{list(2, 3, 4, 5, 6, 7), 0}, given{list(2), api.OK}}, {full(), wish{list(0, 1, 2, 3, 4, 5, 6), 7}, given{e: api.ErrDown}},
	} {
		expect(t, "Gives "+string(rune('a'+i)), gives(x.r, x.w), x.want)
	}
}

// P10.6: the book with which most is gained, the first one of several; none, if nothing is.
func TestAsk(t *testing.T) {
	two := lit(free(0, 10, 20, 30), 50, 0)
	for i, x := range []struct {
		r    api.RdRoom
		want advised
	}{
		{api.RdRoom{}, advised{e: api.ErrNone}}, {free(1, 5), advised{e: api.ErrNone}}, {free(0, 5), advised{e: api.ErrNone}}, {bearing(lit(free(0, 5), 1), span(0, 1)), advised{0, 5, api.OK}}, {bearing(lit(free(0, 5), 2), span(0, 1)), advised{e: api.ErrNone}}, {bearing(lit(free(0, 0), 1), span(0, 1)), advised{e: api.ErrNone}}, {bearing(lit(free(0, 5), 1), span(1, 9)), advised{e: api.ErrNone}},
		{bearing(two, span(0, 50), span(0, 100), span(0, 150)), advised{1, 20, api.OK}}, {bearing(two, span(0, 50), span(0, 99), span(0, 149)), advised{0, 10, api.OK}}, {bearing(two, span(0, 49), span(0, 100), span(0, 150)), advised{1, 20, api.OK}}, {bearing(two, span(0, 49), span(0, 99), span(0, 150)), advised{2, 20, api.OK}}, {bearing(two, span(0, 49), span(0, 99), span(0, 149)), advised{e: api.ErrNone}}, {bearing(two, span(0, 50), span(100, 100), span(0, 150)), advised{e: api.ErrNone}}, {bearing(two, span(50, 50), span(0, 100), span(0, 150)), advised{1, 10, api.OK}},
		{bearing(lit(two, 50), span(0, 50), span(0, 100), span(0, 150)), advised{2, 30, api.OK}}, {bearing(lit(two, 50), span(0, 50), span(0, 100), span(0, 149)), advised{1, 20, api.OK}},
		// If both books were known there would be more, but each one alone does not help.
		{bearing(wanting(lit(free(0, 1, 1), 10, 10), ask(0, 0, 1, 5), ask(1, 1, 1, 5), ask(0, 1, 1, 9)), span(0, 10), span(10, 10)), advised{0, 1, api.OK}},
	} {
		expect(t, "Ask "+string(rune('a'+i)), asked(x.r), x.want)
	}
}
