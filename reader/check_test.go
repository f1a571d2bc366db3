package reader_test

import (
	"fmt"
	"slices"
	"strings"
	"testing"

	"duodecimo/api"
	"duodecimo/reader"
)

// checked is a room, and what Check returns.
type checked struct {
	r        api.RdRoom
	part, at int
	e        api.Errno
}

// A book, a reader, a seat and a request with all errors that one can have.
var (
	worstBook    = book("", -1, 1001, -1, false)
	worstReader  = api.RdReader{Permit: -1}
	worstSeat    = api.RdSeat{Light: -1}
	worstRequest = ask(-1, -1, 0, -1)
)

// books is the example with other books, and errors behind them.
func books(some ...api.RdBook) api.RdRoom {
	return but(func(r *api.RdRoom) {
		r.Books, r.Readers, r.Seats, r.Requests = some, []api.RdReader{worstReader}, []api.RdSeat{worstSeat}, []api.RdRequest{worstRequest}
	})
}

// readers is the example with other readers, and errors behind them.
func readers(some ...api.RdReader) api.RdRoom {
	return but(func(r *api.RdRoom) {
		r.Readers, r.Seats, r.Requests = some, []api.RdSeat{worstSeat}, []api.RdRequest{worstRequest}
	})
}

// chairs is the example with other seats, and errors behind them.
func chairs(some ...api.RdSeat) api.RdRoom {
	return but(func(r *api.RdRoom) { r.Seats, r.Requests = some, []api.RdRequest{worstRequest} })
}

// requests is the example with other requests.
func requests(some ...api.RdRequest) api.RdRoom { return wanting(example(), some...) }

// errorIf is one of two errors.
func errorIf(isSo bool, e, other api.Errno) api.Errno {
	if isSo {
		return e
	}
	return other
}

// checkedIf is a room with an error behind what is looked at if this is so, otherwise one with an error there.
func checkedIf(isSo bool, r api.RdRoom, part, at int, e api.Errno, behind checked) checked {
	if isSo {
		return checked{r, behind.part, behind.at, behind.e}
	}
	return checked{r, part, at, e}
}

// named are so many names that are not the same.
func named(many int) []string {
	var all []string
	for i := range many {
		all = append(all, "n"+string(rune('a'+i)))
	}
	return all
}

// badName is the name of the last one of some things, those of the others, and its error.
type badName struct {
	others []string
	name   string
	e      api.Errno
}

// badNames are names with errors, and without.
func badNames() []badName {
	long := strings.Repeat("a", api.MaxName)
	all := []badName{{nil, "a", api.OK}, {names("a", "b"), "c", api.OK}, {names("a"), "a.1", api.OK}, {names("a"), long, api.OK}, {names("a", "b"), "b", api.ErrTwice}, {names("a", "b"), "a", api.ErrTwice}, {named(7), "na", api.ErrTwice}, {names(long), long, api.ErrTwice}}
	for _, name := range []string{"", "A", "1a", ".a", "a b", "a\xff", "ä", "a-", "a\n", long + "a"} {
		all = append(all, badName{nil, name, api.ErrForm}, badName{names("a"), name, api.ErrForm})
	}
	return all
}

// names is a list of names.
func names(some ...string) []string { return some }

// checkedBooks are rooms with errors of books; the next error is that of a reader.
func checkedBooks() []checked {
	next := checked{part: 2, at: 0, e: api.ErrForm}
	good := book("a", 0, 0, 0, false)
	all := []checked{
		{books(), 2, 0, api.ErrForm}, {books(full().Books...), 2, 0, api.ErrForm},
		{books(make([]api.RdBook, api.MaxRdBooks+1)...), 1, 0, api.ErrLong}, {books(append(full().Books, book("x", 0, 0, 0, false))...), 1, 0, api.ErrLong}, {books(make([]api.RdBook, 1<<16)...), 1, 0, api.ErrLong},
		{books(good, worstBook, worstBook), 1, 1, api.ErrForm}, {books(worstBook), 1, 0, api.ErrForm},
		{books(good, book("a", -1, -1, -1, false), worstBook), 1, 1, api.ErrTwice}, {books(good, book("b", 0, 0, 0, false), book("b", 0, 1, 0, false)), 1, 2, api.ErrTwice},
		{books(good, book("b", -1, 9, 0, false), worstBook), 1, 1, api.ErrRange}, {books(good, book("b", 0, 1001, 0, true), worstBook), 1, 1, api.ErrRange}, {books(good, book("b", 0, 0, -1, true)), 1, 1, api.ErrRange}, {books(good, book("b", 0, 1001, 1002, true)), 1, 1, api.ErrRange}, {books(good, book("b", 6, 1, 1, true)), 1, 1, api.ErrRange},
		{books(good, book("b", 0, 9, 8, false), worstBook), 1, 1, api.ErrArg}, {books(good, book("b", 5, 1000, 0, true), worstBook), 1, 1, api.ErrArg}, {books(good, book("b", 5, 1, 0, true), book("c", 6, 0, 0, false)), 1, 1, api.ErrArg}, {books(book("b", 0, 1, 1, true)), 2, 0, api.ErrForm},
	}
	for _, x := range badNames() {
		var some []api.RdBook
		for _, name := range x.others {
			some = append(some, book(name, 0, 0, 0, false))
		}
		some = append(some, book(x.name, 0, 0, 0, false))
		all = append(all, checkedIf(x.e == api.OK, books(some...), 1, len(x.others), x.e, next))
	}
	for _, n := range numbers(0, api.MaxRdClass, api.MaxRdLight) {
		class, light := n >= 0 && n <= api.MaxRdClass, n >= 0 && n <= api.MaxRdLight
		all = append(all, checkedIf(class, books(good, book("b", n, 1, 1, false)), 1, 1, api.ErrRange, next))
		all = append(all, checkedIf(light, books(good, book("b", 1, n, n, false)), 1, 1, api.ErrRange, next))
		all = append(all, checkedIf(light, books(good, book("b", 1, n, 1000, false)), 1, 1, api.ErrRange, next))
		all = append(all, checkedIf(light, books(good, book("b", 1, 0, n, false)), 1, 1, api.ErrRange, next))
	}
	return all
}

// checkedReaders are rooms with errors of readers; the next error is that of a seat.
func checkedReaders() []checked {
	next := checked{part: 3, at: 0, e: api.ErrRange}
	good := api.RdReader{Name: "a"}
	all := []checked{
		{readers(), 3, 0, api.ErrRange}, {readers(full().Readers...), 3, 0, api.ErrRange},
		{readers(make([]api.RdReader, api.MaxRdReaders+1)...), 2, 0, api.ErrLong}, {readers(append(full().Readers, api.RdReader{Name: "x"})...), 2, 0, api.ErrLong}, {readers(make([]api.RdReader, 1<<16)...), 2, 0, api.ErrLong},
		{readers(good, worstReader, worstReader), 2, 1, api.ErrForm}, {readers(good, api.RdReader{Name: "a", Permit: -1}, worstReader), 2, 1, api.ErrTwice}, {readers(good, api.RdReader{Name: "b", Permit: 6}, worstReader), 2, 1, api.ErrRange},
		{readers(api.RdReader{Name: "atlas"}), 3, 0, api.ErrRange}, // the name of a book
	}
	for _, x := range badNames() {
		var some []api.RdReader
		for _, name := range append(slices.Clone(x.others), x.name) {
			some = append(some, api.RdReader{Name: name})
		}
		all = append(all, checkedIf(x.e == api.OK, readers(some...), 2, len(x.others), x.e, next))
	}
	for _, n := range numbers(0, api.MaxRdClass) {
		all = append(all, checkedIf(n >= 0 && n <= api.MaxRdClass, readers(good, api.RdReader{Name: "b", Permit: n}), 2, 1, api.ErrRange, next))
	}
	return all
}

// checkedSeats are rooms with errors of seats; the next error is that of a request.
func checkedSeats() []checked {
	next := checked{part: 4, at: 0, e: api.ErrNone}
	all := []checked{
		{chairs(), 4, 0, api.ErrNone}, {chairs(make([]api.RdSeat, api.MaxRdSeats)...), 4, 0, api.ErrNone}, {chairs(api.RdSeat{Light: 100, Small: true}, api.RdSeat{Light: 100, Small: true}), 4, 0, api.ErrNone},
		{chairs(make([]api.RdSeat, api.MaxRdSeats+1)...), 3, 0, api.ErrLong}, {chairs(slices.Repeat([]api.RdSeat{worstSeat}, api.MaxRdSeats+1)...), 3, 0, api.ErrLong}, {chairs(make([]api.RdSeat, 1<<16)...), 3, 0, api.ErrLong},
		{chairs(api.RdSeat{}, worstSeat, worstSeat), 3, 1, api.ErrRange}, {chairs(api.RdSeat{}, api.RdSeat{}, api.RdSeat{}, api.RdSeat{}, api.RdSeat{}, worstSeat), 3, 5, api.ErrRange},
	}
	for _, n := range numbers(0, api.MaxRdSun) {
		all = append(all, checkedIf(n >= 0 && n <= api.MaxRdSun, chairs(api.RdSeat{}, api.RdSeat{Light: n}), 3, 1, api.ErrRange, next))
	}
	return all
}

// checkedRequests are rooms with errors of requests, and without.
func checkedRequests() []checked {
	good := ask(0, 0, 1, 0)
	all := []checked{
		{requests(), 0, 0, api.OK}, {requests(slices.Repeat([]api.RdRequest{good}, api.MaxRdRequests)...), 0, 0, api.OK}, {requests(ask(1, 2, 12, 100)), 0, 0, api.OK},
		{requests(slices.Repeat([]api.RdRequest{good}, api.MaxRdRequests+1)...), 4, 0, api.ErrLong}, {requests(slices.Repeat([]api.RdRequest{worstRequest}, api.MaxRdRequests+1)...), 4, 0, api.ErrLong}, {requests(make([]api.RdRequest, 1<<16)...), 4, 0, api.ErrLong},
		{requests(good, worstRequest, worstRequest), 4, 1, api.ErrNone}, {requests(good, ask(0, -1, 0, -1), worstRequest), 4, 1, api.ErrNone}, {requests(good, ask(-1, 0, 0, -1), worstRequest), 4, 1, api.ErrNone}, {requests(ask(2, 0, 1, 0)), 4, 0, api.ErrNone}, {requests(ask(0, 3, 1, 0)), 4, 0, api.ErrNone},
		{requests(good, ask(0, 0, 0, -1), worstRequest), 4, 1, api.ErrRange}, {requests(good, ask(0, 0, 13, 0), worstRequest), 4, 1, api.ErrRange}, {requests(good, ask(0, 0, 1, -1), worstRequest), 4, 1, api.ErrRange}, {requests(good, ask(0, 0, 1, 101), worstRequest), 4, 1, api.ErrRange},
		{wanting(free(2), good), 4, 0, api.ErrNone}, {wanting(free(0), worstRequest), 4, 0, api.ErrNone},
		{api.RdRoom{Readers: full().Readers, Requests: []api.RdRequest{good}}, 4, 0, api.ErrNone}, {api.RdRoom{Books: full().Books, Requests: []api.RdRequest{good}}, 4, 0, api.ErrNone}, {api.RdRoom{Books: full().Books, Readers: full().Readers, Requests: []api.RdRequest{good}}, 0, 0, api.OK},
	}
	ok := checked{}
	for _, n := range numbers(0, 1, 2, 3, api.MaxRdHours, api.MaxRdWorth) {
		all = append(all, checkedIf(n == 0 || n == 1, requests(good, ask(n, 0, 1, 0)), 4, 1, api.ErrNone, ok))
		all = append(all, checkedIf(n >= 0 && n <= 2, requests(good, ask(0, n, 1, 0)), 4, 1, api.ErrNone, ok))
		all = append(all, checkedIf(n >= 1 && n <= api.MaxRdHours, requests(good, ask(0, 0, n, 0)), 4, 1, api.ErrRange, ok))
		all = append(all, checkedIf(n >= 0 && n <= api.MaxRdWorth, requests(good, ask(0, 0, 1, n)), 4, 1, api.ErrRange, ok))
	}
	return all
}

// allChecked are all rooms that Check is held against.
func allChecked() []checked {
	good := []checked{{example(), 0, 0, api.OK}, {windowAlone(), 0, 0, api.OK}, {full(), 0, 0, api.OK}, {api.RdRoom{}, 0, 0, api.OK}}
	return slices.Concat(good, checkedBooks(), checkedReaders(), checkedSeats(), checkedRequests())
}

// P10.1: the errors of a room in their order.
func TestCheck(t *testing.T) {
	for i, x := range allChecked() {
		part, at, e := reader.Check(x.r)
		if part != x.part || at != x.at || e != x.e {
			t.Errorf("%d: Check(%v) = %d, %d, %d, not %d, %d, %d", i, x.r, part, at, e, x.part, x.at, x.e)
		}
	}
}

// said are the errors of all functions but Check, each called with errors of its own as well, and what they return besides.
func said(r api.RdRoom) (errors map[string]api.Errno, results []any) {
	errors = map[string]api.Errno{}
	say := func(name string, e api.Errno, more ...any) {
		errors[name] = e
		results = append(results, more...)
	}
	why, e := reader.Why(r, -1, -1)
	say("Why", e, why)
	can, e := reader.Can(r, list(-1, -1))
	say("Can", e, can)
	s := seats(r, list(-1, -1))
	say("Seats", s.e, s.seats, s.light)
	l := left(r, sitting{list(-1, -1), list(-1)})
	say("Left", l.e, l.spans)
	turn, e := reader.Turn(r)
	say("Turn", e, turn)
	b := best(r)
	say("Best", b.e, b.requests, b.worth)
	g := gives(r, wish{list(-1, -1), -1})
	say("Gives", g.e, g.requests)
	a := asked(r)
	say("Ask", a.e, a.book, a.more)
	return errors, results
}

// zero reports whether each of some results is its zero value.
func zero(results ...any) bool {
	for _, x := range results {
		switch s := fmt.Sprint(x); s {
		case "0", "false", "[]":
		default:
			return false
		}
	}
	return true
}

// P10.1: all functions return the error of the room first, and nothing else.
func TestRoomFirst(t *testing.T) {
	for i, x := range allChecked() {
		if x.e == api.OK {
			continue
		}
		errors, results := said(x.r)
		for name, e := range errors {
			if e != x.e {
				t.Errorf("%d: %s: %d", i, name, e)
			}
		}
		if !zero(results...) {
			t.Errorf("%d: %v", i, results)
		}
	}
}

// P10.1: all cases that the other tests are about have no error.
func TestCheckCases(t *testing.T) {
	for _, q := range cases() {
		if part, at, e := reader.Check(q.RdRoom); part != 0 || at != 0 || e != api.OK {
			t.Errorf("Check(%v) = %d, %d, %d", q.RdRoom, part, at, e)
		}
	}
}

// P10.2: an index that is none, of the request or of the seat.
func TestWhyErrors(t *testing.T) {
	for i, r := range []api.RdRoom{example(), full(), {}, free(0, 1, 2), free(3)} {
		for _, n := range numbers(0, 2, 5, 8) {
			for _, m := range numbers(0, 3, 6) {
				good := n >= 0 && n < len(r.Requests) && m >= 0 && m < len(r.Seats)
				why, e := reader.Why(r, n, m)
				if e != errorIf(good, api.OK, api.ErrNone) || !good && why != 0 || good && why != whyOf(r, n, m) {
					t.Errorf("%d: Why of %d, %d = %d, %d", i, n, m, why, e)
				}
			}
		}
	}
}

// badRequests are requests of the example, or of as many as it has, and their error.
type badRequests struct {
	requests []int
	e        api.Errno
}

// someBadRequests are requests with errors, and without.
func someBadRequests() []badRequests {
	all := []badRequests{
		{nil, api.OK}, {list(0, 1, 2, 3, 4), api.OK}, {list(4), api.OK}, {list(0, 0), api.ErrArg}, {list(1, 0), api.ErrArg}, {list(0, 1, 2, 2), api.ErrArg}, {list(0, 1, 3, 2, 4), api.ErrArg}, {list(4, 0), api.ErrArg}, {make([]int, 1<<16), api.ErrArg},
		{list(0, 0, 5), api.ErrNone}, {list(1, 0, -1), api.ErrNone}, {list(-1, 0), api.ErrNone}, {list(0, 5), api.ErrNone}, {list(0, 1, 2, 3, 4, 5), api.ErrNone}, {append(make([]int, 1<<16), 5), api.ErrNone},
	}
	for _, n := range numbers(0, 5) {
		all = append(all, badRequests{list(n), errorIf(n >= 0 && n < 5, api.OK, api.ErrNone)}, badRequests{list(4, n), errorIf(n >= 0 && n < 5, api.ErrArg, api.ErrNone)})
	}
	return all
}

// P10.2, P10.3, P10.5: the error of requests comes before all others but that of the room.
func TestRequestErrors(t *testing.T) {
	for i, x := range someBadRequests() {
		can, e := reader.Can(example(), x.requests)
		if e != x.e || e != api.OK && can {
			t.Errorf("%d: Can = %t, %d, not %d", i, can, e, x.e)
		}
		s := seats(example(), x.requests)
		if s.e != x.e && (x.e != api.OK || s.e != api.ErrDown) || s.e != api.OK && !zero(s.seats, s.light) {
			t.Errorf("%d: Seats = %v, not %d", i, s, x.e)
		}
		// Too many seats, one of which is none, and one of which is there twice.
		l := left(example(), sitting{x.requests, append(make([]int, len(x.requests)), -1)})
		if l.e != errorIf(x.e == api.OK, api.ErrLong, x.e) || !zero(l.spans) {
			t.Errorf("%d: Left = %v, not %d", i, l, x.e)
		}
		g := gives(example(), wish{x.requests, -1})
		if g.e != errorIf(x.e == api.OK, api.ErrNone, x.e) || !zero(g.requests) {
			t.Errorf("%d: Gives = %v, not %d", i, g, x.e)
		}
	}
}

// P10.3: the errors of Left in their order.
func TestLeftErrors(t *testing.T) {
	for i, x := range []struct {
		requests, seats []int
		e               api.Errno
	}{
		{list(0), nil, api.ErrLong}, {nil, list(0), api.ErrLong}, {list(0, 1), list(-1), api.ErrLong}, {list(0, 1), list(-1, -1, -1), api.ErrLong}, {list(0, 2), list(0), api.ErrLong}, {nil, make([]int, 1<<16), api.ErrLong},
		{list(0, 1), list(-1, -1), api.ErrNone}, {list(0, 1), list(3, 3), api.ErrNone}, {list(0, 1, 2), list(0, 0, 3), api.ErrNone}, {list(0, 2), list(0, -1), api.ErrNone}, {list(0), list(3), api.ErrNone},
		{list(0, 1), list(2, 2), api.ErrTwice}, {list(0, 2), list(2, 2), api.ErrTwice}, {list(0, 1, 2), list(1, 0, 1), api.ErrTwice}, {list(3, 4), list(1, 1), api.ErrTwice},
		{list(0, 2), list(2, 1), api.ErrDown}, {list(0, 4), list(2, 0), api.ErrDown}, {list(0), list(0), api.ErrDown}, {list(0), list(1), api.ErrDown}, {list(3), list(2), api.ErrDown}, {list(0, 1), list(2, 0), api.ErrDown}, {list(0, 1), list(0, 1), api.ErrDown},
		{list(0, 1), list(2, 1), api.OK}, {nil, nil, api.OK}, {list(4), list(0), api.OK},
	} {
		if l := left(example(), sitting{x.requests, x.seats}); l.e != x.e || l.e != api.OK && !zero(l.spans) {
			t.Errorf("%d: Left = %v, not %d", i, l, x.e)
		}
	}
	for _, n := range numbers(0, 2, 3) {
		want := api.ErrNone
		if n >= 0 && n < 3 {
			want = errorIf(whyOf(example(), 1, n) == api.RdGood, api.OK, api.ErrDown)
		}
		if l := left(example(), sitting{list(1), list(n)}); l.e != want {
			t.Errorf("Left of 1 at %d = %v, not %d", n, l, want)
		}
	}
}

// P10.5: the errors of Gives in their order.
func TestGivesErrors(t *testing.T) {
	for i, x := range []struct {
		r       api.RdRoom
		granted []int
		request int
		e       api.Errno
	}{
		{example(), list(0, 2), -1, api.ErrNone}, {example(), list(0, 2), 5, api.ErrNone}, {example(), nil, 5, api.ErrNone}, {api.RdRoom{}, nil, 0, api.ErrNone}, {free(2, 1), list(0), 1, api.ErrNone},
		{example(), list(0, 1), 0, api.ErrArg}, {example(), list(0, 1), 1, api.ErrArg}, {example(), list(0, 2), 2, api.ErrArg}, {example(), list(3), 3, api.ErrArg},
		{example(), list(0, 2), 1, api.ErrDown}, {example(), list(3), 0, api.ErrDown}, {example(), list(0), 3, api.ErrDown}, {example(), nil, 3, api.ErrDown}, {example(), list(0, 2), 3, api.ErrDown}, {free(0, 1, 1), nil, 0, api.ErrDown},
		{example(), list(0), 1, api.OK}, {example(), nil, 0, api.OK}, {example(), list(0), 4, api.OK},
	} {
		if g := gives(x.r, wish{x.granted, x.request}); g.e != x.e || g.e != api.OK && !zero(g.requests) {
			t.Errorf("%d: Gives = %v, not %d", i, g, x.e)
		}
	}
	for _, n := range numbers(0, 5) {
		if g := gives(example(), wish{list(0, 1), n}); n >= 0 && n < 5 && g.e == api.ErrNone || (n < 0 || n >= 5) && g.e != api.ErrNone {
			t.Errorf("Gives for %d = %v", n, g)
		}
	}
}

// P10.15: all functions return for any numbers and texts.
func TestAnyArguments(t *testing.T) {
	ints := numbers(0, 5, 12, 100, 1000)
	for _, n := range ints {
		for _, m := range ints {
			for i, r := range []api.RdRoom{
				example(), books(book("a", n, m, m, true)), books(book("a", 0, n, m, false)), readers(api.RdReader{Name: "\xff", Permit: n}), chairs(api.RdSeat{Light: n}, api.RdSeat{Light: m}), requests(ask(n, m, 1, 1)), requests(ask(0, 0, n, m)),
				but(func(r *api.RdRoom) { r.Seats[0].Light, r.Requests[0].Hours = n, m }), but(func(r *api.RdRoom) { r.Books[0].Light.Lo, r.Requests[1].Hours = n, m }), but(func(r *api.RdRoom) { r.Readers[0].Permit, r.Requests[0].Worth = n, m }),
			} {
				_, _, e := reader.Check(r)
				errors, results := said(r)
				if wrong := errors["Gives"]; wrong != errorIf(e != api.OK, e, api.ErrNone) || e != api.OK && !zero(results...) {
					t.Errorf("%d, %d, %d: Gives: %d, %v", i, n, m, wrong, results)
				}
				reader.Why(r, n, m)
				reader.Can(r, list(n, m))
				reader.Seats(r, list(n, m))
				reader.Left(r, list(n, m), list(n, m))
				reader.Left(r, list(0, 1), list(n, m))
				reader.Gives(r, list(n), m)
				reader.Gives(r, list(0, 1), n)
			}
		}
	}
}

// P10.15: no argument is changed, nor the memory behind it.
func TestNotChanged(t *testing.T) {
	t.Parallel()
	behind := struct {
		b api.RdBook
		r api.RdReader
		s api.RdSeat
		q api.RdRequest
	}{book("behind", 7, 7, 7, true), api.RdReader{Name: "behind", Permit: 7}, api.RdSeat{Light: 7, Small: true}, ask(7, 7, 7, 7)}
	for i, q := range cases()[:200] {
		was := cloned(q.RdRoom)
		q.RdRoom = cloned(q.RdRoom)
		q.Books = append(q.Books, behind.b)[:len(q.Books)]
		q.Readers = append(q.Readers, behind.r)[:len(q.Readers)]
		q.Seats = append(q.Seats, behind.s)[:len(q.Seats)]
		q.Requests = append(q.Requests, behind.q)[:len(q.Requests)]
		var kept, lists [][]int
		keep := func(numbers []int) []int {
			kept = append(kept, slices.Clone(numbers))
			lists = append(lists, append(slices.Clone(numbers), 7))
			return lists[len(lists)-1][:len(numbers)]
		}
		q.sittings, q.wishes = slices.Clone(q.sittings), slices.Clone(q.wishes)
		for k, s := range q.sittings {
			q.sittings[k] = sitting{keep(s.requests), keep(s.seats)}
			seats(q.RdRoom, keep(s.requests))
			reader.Can(q.RdRoom, keep(s.requests))
		}
		for k, w := range q.wishes {
			q.wishes[k].granted = keep(w.granted)
		}
		if x := tell(q); differ(x, answers()[i]) != "" {
			t.Errorf("%v: %s: %v, was %v", q, differ(x, answers()[i]), x, answers()[i])
		}
		reader.Check(q.RdRoom)
		said(q.RdRoom)
		if !same(q.RdRoom, was) {
			t.Errorf("%v became %v", was, q.RdRoom)
		}
		for k, numbers := range kept {
			if !slices.Equal(lists[k], append(numbers, 7)) {
				t.Errorf("%v became %v", numbers, lists[k])
			}
		}
		if q.Books[:len(was.Books)+1][len(was.Books)] != behind.b || q.Readers[:len(was.Readers)+1][len(was.Readers)] != behind.r || q.Seats[:len(was.Seats)+1][len(was.Seats)] != behind.s || q.Requests[:len(was.Requests)+1][len(was.Requests)] != behind.q {
			t.Errorf("what is behind %v was changed", was)
		}
	}
}

// P10.15: results are new memory: what is written there is seen neither in the arguments, nor in other results.
func TestNewMemory(t *testing.T) {
	t.Parallel()
	for i, q := range cases()[:100] {
		was := cloned(q.RdRoom)
		want := fmt.Sprint(tell(q))
		x := tell(q)
		lists := [][]int{x.turn, x.best.requests}
		for _, s := range x.seats {
			lists = append(lists, s.seats)
		}
		for _, g := range x.gives {
			lists = append(lists, g.requests)
		}
		for k, numbers := range lists {
			before := fmt.Sprint(lists[k+1:])
			scribble(numbers, -7)
			if fmt.Sprint(lists[k+1:]) != before {
				t.Errorf("%d: results share memory", i)
			}
		}
		for k, l := range x.left {
			before := fmt.Sprint(x.left[k+1:])
			scribble(l.spans, span(-7, -7))
			if fmt.Sprint(x.left[k+1:]) != before {
				t.Errorf("%d: results share memory", i)
			}
		}
		if !same(q.RdRoom, was) || fmt.Sprint(tell(q)) != want {
			t.Errorf("%d: %v became %v", i, was, q.RdRoom)
		}
	}
}

// scribble overwrites a list, also beyond its end.
func scribble[T any](things []T, with T) {
	things = things[:cap(things)]
	for i := range things {
		things[i] = with
	}
}
