package reader_test

import (
	"slices"

	"duodecimo/api"
)

// whyOf is why a request cannot be granted at a seat, word by word.
func whyOf(r api.RdRoom, request, seat int) int {
	q, s := r.Requests[request], r.Seats[seat]
	b := r.Books[q.Book]
	switch {
	case b.Class > r.Readers[q.Reader].Permit:
		return api.RdPermit
	case b.Large && s.Small:
		return api.RdLarge
	case lightOf(r, request, seat) > b.Light.Lo:
		return api.RdDark
	}
	return api.RdGood
}

// lightOf is the light of a request at a seat.
func lightOf(r api.RdRoom, request, seat int) int {
	return r.Requests[request].Hours * r.Seats[seat].Light
}

// lights is the light of requests at their seats, together.
func lights(r api.RdRoom, s sitting) int {
	all := 0
	for i, n := range s.requests {
		all += lightOf(r, n, s.seats[i])
	}
	return all
}

// rivals reports whether two requests cannot both be granted, whatever seats there are.
func rivals(r api.RdRoom, a, b int) bool {
	return r.Requests[a].Reader == r.Requests[b].Reader || r.Requests[a].Book == r.Requests[b].Book
}

// mornings visits all mornings that there can be: which requests are granted, and at which seats. Of the same requests seats are compared request by request.
func mornings(r api.RdRoom, visit func(sitting)) {
	var next func(request int, s sitting)
	next = func(request int, s sitting) {
		if request == len(r.Requests) {
			visit(s)
			return
		}
		next(request+1, s)
		if slices.ContainsFunc(s.requests, func(n int) bool { return rivals(r, n, request) }) {
			return
		}
		for seat := range r.Seats {
			if !slices.Contains(s.seats, seat) && whyOf(r, request, seat) == api.RdGood {
				next(request+1, sitting{append(s.requests, request), append(s.seats, seat)})
			}
		}
	}
	next(0, sitting{make([]int, 0, api.MaxRdRequests), make([]int, 0, api.MaxRdRequests)})
}

// model is, by the bits of their numbers, the seats of all requests that can be granted together, and their light.
type model map[int]seated

// modelOf is the model of a room.
func modelOf(r api.RdRoom) model {
	m := model{}
	mornings(r, func(s sitting) {
		key, light := bits(s.requests), lights(r, s)
		if x, is := m[key]; !is || light < x.light {
			m[key] = seated{slices.Clone(s.seats), light, api.OK}
		}
	})
	return m
}

// can reports whether requests can be granted together.
func (m model) can(requests []int) bool {
	_, is := m[bits(requests)]
	return is
}

// seats is what Seats must say.
func (m model) seats(requests []int) seated {
	if x, is := m[bits(requests)]; is {
		return x
	}
	return seated{e: api.ErrDown}
}

// leftOf is what Left must say of requests and seats without another error.
func leftOf(r api.RdRoom, s sitting) spared {
	for i, n := range s.requests {
		if whyOf(r, n, s.seats[i]) != api.RdGood || slices.ContainsFunc(s.requests[:i], func(m int) bool { return rivals(r, m, n) }) {
			return spared{e: api.ErrDown}
		}
	}
	var x spared
	for i, b := range r.Books {
		read := 0
		for k, n := range s.requests {
			if r.Requests[n].Book == i {
				read += lightOf(r, n, s.seats[k])
			}
		}
		x.spans = append(x.spans, span(b.Light.Lo-read, b.Light.Hi-read))
	}
	return x
}

// turn is what Turn must say.
func (m model) turn(r api.RdRoom) []int {
	var granted []int
	for n := range r.Requests {
		if m.can(with(granted, n)) {
			granted = with(granted, n)
		}
	}
	return granted
}

// best is what Best must say.
func (m model) best(r api.RdRoom) chosen {
	var x chosen
	for _, some := range allParts()[len(r.Requests)] {
		if worth := worthOf(r, some); m.can(some) && worth > x.worth {
			x = chosen{some, worth, api.OK}
		}
	}
	return x
}

// gives is what Gives must say.
func (m model) gives(w wish) given {
	if !m.can(w.granted) || !m.can(list(w.request)) {
		return given{e: api.ErrDown}
	}
	x := given{requests: w.granted}
	for _, some := range parts(w.granted) {
		if len(some) < len(x.requests) && m.can(with(without(w.granted, some), w.request)) {
			x.requests = some
		}
	}
	return x
}

// known is a room in which the light of a book is known to be the most that it can be.
func known(r api.RdRoom, book int) api.RdRoom {
	r = cloned(r)
	r.Books[book].Light.Lo = r.Books[book].Light.Hi
	return r
}

// askOf is what Ask must say.
func askOf(r api.RdRoom) advised {
	x := advised{e: api.ErrNone}
	now := modelOf(r).best(r).worth
	for i := range r.Books {
		k := known(r, i)
		if more := modelOf(k).best(k).worth - now; more > x.more {
			x = advised{i, more, api.OK}
		}
	}
	return x
}

// modelled is what must be told of a question.
func modelled(q question) told {
	m := modelOf(q.RdRoom)
	x := told{turn: m.turn(q.RdRoom), best: m.best(q.RdRoom), ask: askOf(q.RdRoom)}
	for i := range q.Requests {
		x.why = append(x.why, nil)
		for k := range q.Seats {
			x.why[i] = append(x.why[i], whyOf(q.RdRoom, i, k))
		}
	}
	for _, some := range allParts()[len(q.Requests)] {
		x.can = append(x.can, m.can(some))
		x.seats = append(x.seats, m.seats(some))
	}
	for _, s := range q.sittings {
		x.left = append(x.left, leftOf(q.RdRoom, s))
	}
	for _, w := range q.wishes {
		x.gives = append(x.gives, m.gives(w))
	}
	return x
}
