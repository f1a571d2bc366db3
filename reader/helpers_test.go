package reader_test

import (
	"fmt"
	"math"
	"math/rand"
	"slices"
	"strconv"
	"sync"
	"testing"

	"duodecimo/api"
	"duodecimo/reader"
)

// The seats of the chapter's example.
const (
	window = 0
	small  = 1
	plain  = 2
)

func book(name string, class, lo, hi int, large bool) api.RdBook {
	return api.RdBook{Name: name, Class: class, Light: api.Span{Lo: lo, Hi: hi}, Large: large}
}

func ask(who, book, hours, worth int) api.RdRequest {
	return api.RdRequest{Reader: who, Book: book, Hours: hours, Worth: worth}
}

func span(lo, hi int) api.Span { return api.Span{Lo: lo, Hi: hi} }

// list is a list of numbers, as short as it can be written.
func list(numbers ...int) []int { return numbers }

// example is R of the chapter's examples.
func example() api.RdRoom {
	return api.RdRoom{
		Books:    []api.RdBook{book("atlas", 2, 40, 60, true), book("psalter", 4, 10, 10, false), book("novel", 1, 200, 200, false)},
		Readers:  []api.RdReader{{Name: "ada", Permit: 2}, {Name: "bo", Permit: 5}},
		Seats:    []api.RdSeat{{Light: 10}, {Light: 4, Small: true}, {Light: 5}},
		Requests: []api.RdRequest{ask(0, 0, 6, 20), ask(1, 1, 2, 30), ask(0, 2, 8, 10), ask(0, 1, 1, 50), ask(1, 0, 4, 15)},
	}
}

// but is the example after a change.
func but(change func(*api.RdRoom)) api.RdRoom {
	r := example()
	change(&r)
	return r
}

// windowAlone is the example with the seat at the window alone.
func windowAlone() api.RdRoom { return but(func(r *api.RdRoom) { r.Seats = r.Seats[:1] }) }

// free is a room with so many books and readers, in which the reader n wants the book n for n+1 hours, which is worth as much as is said; books can have all light, and no seat has any.
func free(seats int, worth ...int) api.RdRoom {
	r := api.RdRoom{Seats: make([]api.RdSeat, seats)}
	for n, w := range worth {
		r.Books = append(r.Books, book("b"+strconv.Itoa(n), n%(api.MaxRdClass+1), api.MaxRdLight, api.MaxRdLight, n%2 == 1))
		r.Readers = append(r.Readers, api.RdReader{Name: "r" + strconv.Itoa(n), Permit: api.MaxRdClass})
		r.Requests = append(r.Requests, ask(n, n, n+1, w))
	}
	return r
}

// full is a room with as many books, readers, seats and requests as there can be; the later seats have more light.
func full() api.RdRoom {
	r := free(api.MaxRdSeats, 8, 7, 6, 5, 4, 3, 2, 1)
	for i := range r.Seats {
		r.Seats[i].Light = 1 + i
	}
	return r
}

// lit is a room with seats of these lights.
func lit(r api.RdRoom, lights ...int) api.RdRoom {
	r = cloned(r)
	r.Seats = nil
	for _, l := range lights {
		r.Seats = append(r.Seats, api.RdSeat{Light: l})
	}
	return r
}

// bearing is a room whose books can bear these lights.
func bearing(r api.RdRoom, lights ...api.Span) api.RdRoom {
	r = cloned(r)
	for i, l := range lights {
		r.Books[i].Light = l
	}
	return r
}

// wanting is a room with other requests.
func wanting(r api.RdRoom, requests ...api.RdRequest) api.RdRoom {
	r = cloned(r)
	r.Requests = requests
	return r
}

// cloned is a room that shares no memory with the other one.
func cloned(r api.RdRoom) api.RdRoom {
	return api.RdRoom{Books: slices.Clone(r.Books), Readers: slices.Clone(r.Readers), Seats: slices.Clone(r.Seats), Requests: slices.Clone(r.Requests)}
}

// same reports whether two rooms are the same.
func same(r, s api.RdRoom) bool {
	return slices.Equal(r.Books, s.Books) && slices.Equal(r.Readers, s.Readers) && slices.Equal(r.Seats, s.Seats) && slices.Equal(r.Requests, s.Requests)
}

// parts are all parts of a list, compared number by number, so that none comes first.
func parts(of []int) [][]int {
	all := [][]int{nil}
	for i, n := range of {
		for _, behind := range parts(of[i+1:]) {
			all = append(all, append(list(n), behind...))
		}
	}
	return all
}

// upTo are the numbers below many, ascending.
func upTo(many int) []int {
	var numbers []int
	for n := range many {
		numbers = append(numbers, n)
	}
	return numbers
}

// allParts are, by how many requests there are, all lists of some of them, compared number by number.
var allParts = sync.OnceValue(func() [][][]int {
	var all [][][]int
	for many := range api.MaxRdRequests + 1 {
		all = append(all, parts(upTo(many)))
	}
	return all
})

// without is a list without the numbers of another one.
func without(numbers, others []int) []int {
	return slices.DeleteFunc(slices.Clone(numbers), func(n int) bool { return slices.Contains(others, n) })
}

// with is an ascending list with one more number.
func with(numbers []int, n int) []int {
	return slices.Sorted(slices.Values(append(slices.Clone(numbers), n)))
}

// bits is a number with a bit for each number of a list.
func bits(numbers []int) int {
	all := 0
	for _, n := range numbers {
		all |= 1 << n
	}
	return all
}

// worthOf is what requests are worth, together.
func worthOf(r api.RdRoom, requests []int) int {
	all := 0
	for _, n := range requests {
		all += r.Requests[n].Worth
	}
	return all
}

// sitting is requests, and their seats.
type sitting struct{ requests, seats []int }

// wish is a request that comes when others are granted.
type wish struct {
	granted []int
	request int
}

// question is a room, and what is asked about it, besides of all lists of requests.
type question struct {
	api.RdRoom
	sittings []sitting
	wishes   []wish
}

// seated is what Seats says.
type seated struct {
	seats []int
	light int
	e     api.Errno
}

// spared is what Left says.
type spared struct {
	spans []api.Span
	e     api.Errno
}

// chosen is what Best says.
type chosen struct {
	requests []int
	worth    int
	e        api.Errno
}

// given is what Gives says.
type given struct {
	requests []int
	e        api.Errno
}

// advised is what Ask says.
type advised struct {
	book, more int
	e          api.Errno
}

// told is what all functions but Check say of a question.
type told struct {
	why    [][]int  // by requests, of all seats
	can    []bool   // of all lists of requests
	seats  []seated // of all lists of requests
	left   []spared // of all sittings
	turn   []int
	best   chosen
	gives  []given // of all wishes
	ask    advised
	errors []api.Errno // that must not be there
}

// tell asks all functions but Check.
func tell(q question) told {
	var x told
	expect := func(e api.Errno) {
		if e != api.OK {
			x.errors = append(x.errors, e)
		}
	}
	for i := range q.Requests {
		x.why = append(x.why, nil)
		for k := range q.Seats {
			why, e := reader.Why(q.RdRoom, i, k)
			expect(e)
			x.why[i] = append(x.why[i], why)
		}
	}
	for _, some := range allParts()[len(q.Requests)] {
		can, e := reader.Can(q.RdRoom, some)
		expect(e)
		x.can = append(x.can, can)
		x.seats = append(x.seats, seats(q.RdRoom, some))
	}
	for _, s := range q.sittings {
		x.left = append(x.left, left(q.RdRoom, s))
	}
	var e api.Errno
	x.turn, e = reader.Turn(q.RdRoom)
	expect(e)
	x.best = best(q.RdRoom)
	for _, w := range q.wishes {
		x.gives = append(x.gives, gives(q.RdRoom, w))
	}
	x.ask = asked(q.RdRoom)
	return x
}

// seats is what Seats says.
func seats(r api.RdRoom, requests []int) seated {
	seats, light, e := reader.Seats(r, requests)
	return seated{seats, light, e}
}

// left is what Left says.
func left(r api.RdRoom, s sitting) spared {
	spans, e := reader.Left(r, s.requests, s.seats)
	return spared{spans, e}
}

// best is what Best says.
func best(r api.RdRoom) chosen {
	requests, worth, e := reader.Best(r)
	return chosen{requests, worth, e}
}

// gives is what Gives says.
func gives(r api.RdRoom, w wish) given {
	requests, e := reader.Gives(r, w.granted, w.request)
	return given{requests, e}
}

// asked is what Ask says.
func asked(r api.RdRoom) advised {
	book, more, e := reader.Ask(r)
	return advised{book, more, e}
}

// differ says in what two answers differ.
func differ(x, y told) string {
	for _, c := range []struct {
		what string
		x, y any
	}{
		{"errors", x.errors, y.errors}, {"Why", x.why, y.why}, {"Can", x.can, y.can}, {"Seats", x.seats, y.seats}, {"Left", x.left, y.left},
		{"Turn", x.turn, y.turn}, {"Best", x.best, y.best}, {"Gives", x.gives, y.gives}, {"Ask", x.ask, y.ask},
	} {
		if !alike(c.x, c.y) {
			return c.what
		}
	}
	return ""
}

// alike reports whether two things are printed the same, as a nil list and an empty one are.
func alike(x, y any) bool { return fmt.Sprint(x) == fmt.Sprint(y) }

// expect checks what was told.
func expect(t *testing.T, what string, got, want any) {
	t.Helper()
	if !alike(got, want) {
		t.Errorf("%s = %v, not %v", what, got, want)
	}
}

// inAll makes what is said of each of so many things, some at a time.
func inAll[T any](many int, say func(int) T) []T {
	things := make([]T, many)
	var wait sync.WaitGroup
	places := make(chan bool, 16)
	for i := range many {
		places <- true
		wait.Go(func() {
			things[i] = say(i)
			<-places
		})
	}
	wait.Wait()
	return things
}

// numbers are ints far beyond all limits, and about some.
func numbers(limits ...int) []int {
	far := list(math.MinInt, math.MinInt+1, -1, math.MaxInt-1, math.MaxInt)
	for _, n := range limits {
		far = append(far, n-1, n, n+1)
	}
	return far
}

// seed is from where random numbers of a test start.
func seed(n int64) *rand.Rand { return rand.New(rand.NewSource(n)) }

// oneOf is one of some things.
func oneOf[T any](r *rand.Rand, things ...T) T { return things[r.Intn(len(things))] }
