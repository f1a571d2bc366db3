package reader

import (
	"slices"

	"duodecimo/api"
	"duodecimo/check"
	"duodecimo/quire"
)

// The parts of a room in which Check finds an error.
const (
	partNone = iota
	partBooks
	partReaders
	partSeats
	partRequests
)

// bookError returns a function that is given one book after the other, and returns the error of each.
func bookError() func(int, api.RdBook) api.Errno {
	nameError := check.Names(quire.Name)
	return func(_ int, b api.RdBook) api.Errno {
		if e := nameError(b.Name); e != api.OK {
			return e
		}
		if !check.Within(0, api.MaxRdClass, b.Class) {
			return api.ErrRange
		}
		return check.Spans(0, api.MaxRdLight, b.Light)
	}
}

// readerError returns a function that is given one reader after the other, and returns the error of each.
func readerError() func(int, api.RdReader) api.Errno {
	nameError := check.Names(quire.Name)
	return func(_ int, r api.RdReader) api.Errno {
		if e := nameError(r.Name); e != api.OK {
			return e
		}
		if !check.Within(0, api.MaxRdClass, r.Permit) {
			return api.ErrRange
		}
		return api.OK
	}
}

// seatError returns the error of a seat.
func seatError(_ int, s api.RdSeat) api.Errno {
	if !check.Within(0, api.MaxRdSun, s.Light) {
		return api.ErrRange
	}
	return api.OK
}

// requestError returns a function that returns the error of a request in a room with so many readers and books.
func requestError(readers, books int) func(int, api.RdRequest) api.Errno {
	return func(_ int, q api.RdRequest) api.Errno {
		switch {
		case !check.Within(0, readers-1, q.Reader) || !check.Within(0, books-1, q.Book):
			return api.ErrNone
		case !check.Within(1, api.MaxRdHours, q.Hours) || !check.Within(0, api.MaxRdWorth, q.Worth):
			return api.ErrRange
		}
		return api.OK
	}
}

// table has a number for each request at each seat.
type table [api.MaxRdRequests][api.MaxRdSeats]int

// room is a room without an error that is looked at.
type room struct {
	api.RdRoom
	light table // of each request
	why   table // why each request cannot be granted
}

// newRoom returns the room to look at.
func newRoom(r api.RdRoom) room {
	v := room{RdRoom: r}
	for request, q := range r.Requests {
		for seat, s := range r.Seats {
			light := q.Hours * s.Light
			v.light[request][seat] = light
			v.why[request][seat] = wish{r.Books[q.Book], r.Readers[q.Reader], s, light}.hindered()
		}
	}
	return v
}

// open returns the room to look at, or its error.
func open(r api.RdRoom) (room, api.Errno) {
	if _, _, e := Check(r); e != api.OK {
		return room{}, e
	}
	return newRoom(r), api.OK
}

// openFor returns the room to look at; or its error, or that of some requests.
func openFor(r api.RdRoom, requests []int) (room, api.Errno) {
	v, e := open(r)
	switch {
	case e != api.OK:
		return room{}, e
	case !check.Within(0, len(v.Requests)-1, requests...):
		return room{}, api.ErrNone
	case !check.Ascending(requests...):
		return room{}, api.ErrArg
	}
	return v, api.OK
}

// measured returns the room with the light of a book known to be the most that it can be.
func (v room) measured(book int) room {
	known := v.RdRoom
	known.Books = slices.Clone(v.Books)
	light := &known.Books[book].Light
	light.Lo = light.Hi
	return newRoom(known)
}
