package reader_test

import (
	"math/rand"
	"strconv"
	"sync"

	"duodecimo/api"
)

// size says how many books, readers, seats and requests there are.
type size struct{ books, readers, seats, requests int }

// most is the size of the largest rooms.
func most() size {
	return size{api.MaxRdBooks, api.MaxRdReaders, api.MaxRdSeats, api.MaxRdRequests}
}

// someSize is the size of some room. Without books or readers there are no requests.
func someSize(r *rand.Rand) size {
	s := size{r.Intn(api.MaxRdBooks + 1), r.Intn(api.MaxRdReaders + 1), r.Intn(api.MaxRdSeats + 1), r.Intn(api.MaxRdRequests + 1)}
	if s.books == 0 || s.readers == 0 {
		s.requests = 0
	}
	return s
}

// someBook is a book; if it is easy, most readers can have it at most seats.
func someBook(r *rand.Rand, name string, easy bool) api.RdBook {
	lo := oneOf(r, 0, r.Intn(20), r.Intn(100), r.Intn(api.MaxRdLight+1), api.MaxRdLight)
	class := r.Intn(api.MaxRdClass + 1)
	if easy {
		lo, class = max(lo, 50+r.Intn(100)), r.Intn(3)
	}
	hi := min(api.MaxRdLight, lo+oneOf(r, 0, 0, r.Intn(20), r.Intn(200), api.MaxRdLight))
	return book(name, class, lo, hi, r.Intn(4) == 0)
}

// someReader is a reader.
func someReader(r *rand.Rand, name string, easy bool) api.RdReader {
	permit := r.Intn(api.MaxRdClass + 1)
	if easy {
		permit = max(permit, 1+r.Intn(3))
	}
	return api.RdReader{Name: name, Permit: permit}
}

// someSeat is a seat; some have the same light as others.
func someSeat(r *rand.Rand, easy bool) api.RdSeat {
	light := oneOf(r, 0, 5, 10, r.Intn(20), r.Intn(api.MaxRdSun+1), api.MaxRdSun)
	if easy {
		light = r.Intn(12)
	}
	return api.RdSeat{Light: light, Small: r.Intn(4) == 0}
}

// someRequest is a request in a room; the one with number n has often the reader and the book with this number.
func someRequest(r *rand.Rand, s size, n int, easy bool) api.RdRequest {
	q := ask(r.Intn(s.readers), r.Intn(s.books), 1+r.Intn(oneOf(r, 3, api.MaxRdHours)), oneOf(r, 0, 5, 10, r.Intn(20), r.Intn(api.MaxRdWorth+1), api.MaxRdWorth))
	if easy && r.Intn(4) > 0 {
		q.Reader, q.Book = n%s.readers, n%s.books
	}
	return q
}

// someRoom is a room of a size.
func someRoom(r *rand.Rand, s size, easy bool) api.RdRoom {
	var x api.RdRoom
	for n := range s.books {
		x.Books = append(x.Books, someBook(r, "b."+strconv.Itoa(n), easy))
	}
	for n := range s.readers {
		// A reader can have the name of a book.
		x.Readers = append(x.Readers, someReader(r, "b."+strconv.Itoa(n), easy))
	}
	for range s.seats {
		x.Seats = append(x.Seats, someSeat(r, easy))
	}
	for n := range s.requests {
		x.Requests = append(x.Requests, someRequest(r, s, n, easy))
		if s.seats > 0 && r.Intn(3) == 0 {
			tune(r, &x, n)
		}
	}
	return x
}

// tune changes the light of the book of a request so that it is just what is needed at some seat, or can be, or is less by one.
func tune(r *rand.Rand, x *api.RdRoom, request int) {
	needed := min(api.MaxRdLight, lightOf(*x, request, r.Intn(len(x.Seats))))
	less := max(0, needed-1)
	x.Books[x.Requests[request].Book].Light = oneOf(r, span(needed, needed), span(needed, api.MaxRdLight), span(less, less), span(less, needed), span(0, needed))
}

// somePart is a part of some numbers, ascending.
func somePart(r *rand.Rand, of []int) []int {
	var some []int
	for _, n := range of {
		if r.Intn(2) == 0 {
			some = append(some, n)
		}
	}
	return some
}

// someSitting is requests, with seats for as many of them as there are.
func someSitting(r *rand.Rand, x api.RdRoom) sitting {
	requests := somePart(r, upTo(len(x.Requests)))
	if r.Intn(2) == 0 {
		requests = somePart(r, requests)
	}
	requests = requests[:min(len(requests), len(x.Seats))]
	return sitting{requests, r.Perm(len(x.Seats))[:len(requests)]}
}

// someGranted are some requests; most times such that can be granted together.
func someGranted(r *rand.Rand, x api.RdRoom, m model) []int {
	if r.Intn(6) == 0 {
		return somePart(r, upTo(len(x.Requests)))
	}
	var granted []int
	for _, n := range r.Perm(len(x.Requests)) {
		if m.can(with(granted, n)) {
			granted = with(granted, n)
		}
	}
	if r.Intn(3) == 0 {
		granted = somePart(r, granted)
	}
	return granted
}

// questioned is a room with questions about it.
func questioned(r *rand.Rand, x api.RdRoom) question {
	q := question{RdRoom: x}
	m := modelOf(x)
	for range 6 {
		q.sittings = append(q.sittings, someSitting(r, x))
		if granted := someGranted(r, x, m); len(granted) > 0 {
			q.sittings = append(q.sittings, sitting{granted, m.seats(granted).seats})
		}
	}
	for request := range x.Requests {
		for range 2 {
			q.wishes = append(q.wishes, wish{without(someGranted(r, x, m), list(request)), request})
		}
	}
	for i, s := range q.sittings {
		if len(s.seats) < len(s.requests) { // they cannot be granted together
			q.sittings[i] = someSitting(r, x)
		}
	}
	return q
}

// alikeRoom is a room in which all requests, books, readers and seats are the same but for names.
func alikeRoom(seats int) api.RdRoom {
	x := free(seats, 5, 5, 5, 5, 5, 5, 5, 5)
	for i := range x.Requests {
		x.Books[i].Class, x.Books[i].Large, x.Requests[i].Hours = 0, false, 3
	}
	return x
}

// bright is a room in which each book can just bear the light of one hour at the brightest seat.
func bright() api.RdRoom {
	x := alikeRoom(api.MaxRdSeats)
	for i := range x.Books {
		x.Books[i].Light, x.Requests[i].Hours = span(api.MaxRdSun, api.MaxRdSun+i), 1
	}
	for i := range x.Seats {
		x.Seats[i].Light = api.MaxRdSun
	}
	return x
}

// specialRooms are rooms at the limits, and in which nothing can be granted.
func specialRooms() []api.RdRoom {
	oneReader, oneBook := full(), full()
	for i := range oneReader.Requests {
		oneReader.Requests[i].Reader, oneBook.Requests[i].Book = 0, 0
	}
	forbidden := full()
	for i := range forbidden.Books {
		forbidden.Books[i].Class, forbidden.Readers[i].Permit = 5, 4
	}
	return []api.RdRoom{
		example(), windowAlone(), {}, free(0), free(3), free(0, 1, 2), free(1, 1, 2, 3), free(2, 0, 0, 0), free(6, 0, 1, 0, 1), full(), oneReader, oneBook, forbidden,
		alikeRoom(0), alikeRoom(1), alikeRoom(3), alikeRoom(api.MaxRdSeats), bright(), wanting(full()), bearing(full(), make([]api.Span, 8)...), lit(full(), 0, 0, 0, 0, 0, 0), lit(full(), 100, 100, 100, 100, 100, 100),
		bearing(lit(full(), 100, 50, 10), span(0, 100), span(0, 150), span(50, 150), span(300, 400), span(0, 1000), span(599, 600)),
	}
}

// cases are rooms without an error and questions about them, always the same ones.
var cases = sync.OnceValue(func() []question {
	r := seed(10)
	rooms := specialRooms()
	for i := range 1500 {
		s := someSize(r)
		if i%4 == 0 {
			s = most()
		}
		rooms = append(rooms, someRoom(r, s, i%3 > 0))
	}
	var all []question
	for _, x := range rooms {
		all = append(all, questioned(r, x))
	}
	return all
})

// answers are what is told of each of the cases, asked once for all tests.
var answers = sync.OnceValue(func() []told {
	return inAll(len(cases()), func(i int) told { return tell(cases()[i]) })
})

// asks goes through all cases, and what is told of each.
func asks(visit func(q question, x told)) {
	for i, q := range cases() {
		visit(q, answers()[i])
	}
}
