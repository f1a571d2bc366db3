package reader

import (
	"iter"
	"slices"

	"duodecimo/api"
	"duodecimo/check"
	"duodecimo/pick"
)

// wish is a request at a seat: the book, who wants it, the seat, and the light of the request there.
type wish struct {
	book   api.RdBook
	reader api.RdReader
	seat   api.RdSeat
	light  int
}

// hindrance is why a wish cannot be granted, if it applies.
type hindrance struct {
	why     int
	applies func(wish) bool
}

// hindrances returns all hindrances, of which the first one that applies counts.
func hindrances() []hindrance {
	return []hindrance{
		{api.RdPermit, func(w wish) bool { return w.book.Class > w.reader.Permit }},
		{api.RdLarge, func(w wish) bool { return w.book.Large && w.seat.Small }},
		{api.RdDark, func(w wish) bool { return w.light > w.book.Light.Lo }},
	}
}

// hindered returns why a wish cannot be granted.
func (w wish) hindered() int {
	for _, h := range hindrances() {
		if h.applies(w) {
			return h.why
		}
	}
	return api.RdGood
}

// Kinds of things that a request takes from all others.
const (
	kindReader = iota
	kindBook
)

// thing is a reader or a book: its kind, and its index.
type thing struct{ kind, index int }

// apart reports whether no two of some requests have the same reader, or the same book.
func (v room) apart(requests []int) bool {
	taken := check.Again[thing]()
	return !slices.ContainsFunc(requests, func(request int) bool {
		q := v.Requests[request]
		return taken(thing{kindReader, q.Reader}) || taken(thing{kindBook, q.Book})
	})
}

// good reports whether each of some requests can be granted at its seat.
func (v room) good(requests, seats []int) bool {
	for i, request := range requests {
		if v.why[request][seats[i]] != api.RdGood {
			return false
		}
	}
	return true
}

// seatings yields, in their order, all seats at which some requests can be granted together.
func (v room) seatings(requests []int) iter.Seq[[]int] {
	if !v.apart(requests) {
		return func(func([]int) bool) {}
	}
	return pick.Lists(len(requests), func(seats []int) []int {
		request := requests[len(seats)]
		return pick.Where(len(v.Seats), func(seat int) bool {
			return v.why[request][seat] == api.RdGood && !slices.Contains(seats, seat)
		})
	})
}

// lightAt returns the light of some requests at their seats, together.
func (v room) lightAt(requests, seats []int) int {
	all := 0
	for i, request := range requests {
		all += v.light[request][seats[i]]
	}
	return all
}

// left returns how much light each book can still have if some requests are granted at these seats.
func (v room) left(requests, seats []int) []api.Span {
	var spans []api.Span
	for _, b := range v.Books {
		spans = append(spans, b.Light)
	}
	for i, request := range requests {
		light := v.light[request][seats[i]]
		span := &spans[v.Requests[request].Book]
		span.Lo -= light
		span.Hi -= light
	}
	return spans
}
