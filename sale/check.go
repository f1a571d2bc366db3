package sale

import (
	"duodecimo/api"
	"duodecimo/check"
	"duodecimo/pick"
	"duodecimo/quire"
)

// The parts of a sale in which Check finds an error.
const (
	partNone = iota
	partSteps
	partTerms
	partBidders
	partSellers
	partLots
	partBids
)

// stepError returns a function that returns the error of each of these steps.
func stepError(steps []api.SaStep) func(int, api.SaStep) api.Errno {
	return func(i int, step api.SaStep) api.Errno {
		from := api.Span{} // just 0 for the first one
		if i > 0 {
			from = api.Span{Lo: steps[i-1].From + 1, Hi: api.MaxSaPrice}
		}
		if !check.Within(from.Lo, from.Hi, step.From) || !check.Within(1, api.MaxSaPrice, step.By) {
			return api.ErrRange
		}
		return api.OK
	}
}

// nameError returns a function that is given one bidder or seller after the other, and returns the error of each.
func nameError() func(int, string) api.Errno {
	errorOf := check.Names(quire.Name)
	return func(_ int, name string) api.Errno { return errorOf(name) }
}

// lotError returns a function that is given one lot of a sale with so many sellers after the other, and returns the error of each.
func lotError(sellers int) func(int, api.SaLot) api.Errno {
	nameError := check.Names(quire.Name)
	return func(_ int, l api.SaLot) api.Errno {
		if e := nameError(l.Name); e != api.OK {
			return e
		}
		switch {
		case !check.Within(0, sellers-1, l.Seller):
			return api.ErrNone
		case !check.Within(1, api.MaxSaPrice, l.Reserve):
			return api.ErrRange
		}
		return api.OK
	}
}

// wish is a bidder who bids for a lot.
type wish struct{ bidder, lot int }

// bidError returns a function that is given one bid of a sale with so many bidders and lots after the other, and returns the error of each.
func bidError(bidders, lots int) func(int, api.SaBid) api.Errno {
	again := check.Again[wish]()
	return func(_ int, b api.SaBid) api.Errno {
		switch {
		case !check.Within(0, bidders-1, b.Bidder) || !check.Within(0, lots-1, b.Lot):
			return api.ErrNone
		case !check.Within(1, api.MaxSaPrice, b.Most):
			return api.ErrRange
		case again(wish{b.Bidder, b.Lot}):
			return api.ErrTwice
		}
		return api.OK
	}
}

// ringError returns the error of a ring of some of so many bidders.
func ringError(ring []int, bidders int) api.Errno {
	switch {
	case !check.Within(0, bidders-1, ring...):
		return api.ErrNone
	case !check.Ascending(ring...):
		return api.ErrArg
	case len(ring) == 1:
		return api.ErrLong
	}
	return api.OK
}

// sale is a sale without an error that is looked at.
type sale struct {
	api.SaSale
	offers [api.MaxSaLots]offers       // for each lot
	kept   map[pick.Set][]api.SaResult // of all lots, by the rings that were asked for
}

// open returns the sale to look at, or its error.
func open(s api.SaSale) (sale, api.Errno) {
	if _, _, e := Check(s); e != api.OK {
		return sale{}, e
	}
	v := sale{SaSale: s, kept: map[pick.Set][]api.SaResult{}}
	for i, b := range s.Bids {
		v.offers[b.Lot][b.Bidder] = offer{b.Most, i}
	}
	return v, api.OK
}

// openFor returns the sale to look at, and the members of a ring; or its error, or that of the ring.
func openFor(s api.SaSale, ring []int) (v sale, members pick.Set, e api.Errno) {
	v, e = open(s)
	if e != api.OK {
		return sale{}, 0, e
	}
	if e := ringError(ring, len(v.Bidders)); e != api.OK {
		return sale{}, 0, e
	}
	return v, pick.Of(ring...), api.OK
}
