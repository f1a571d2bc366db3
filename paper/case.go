package paper

import (
	"slices"

	"duodecimo/api"
	"duodecimo/check"
	"duodecimo/quire"
)

// The parts of a case in which Check finds an error.
const (
	partNone       = 0
	partRun        = 1
	partStocks     = 2
	partReams      = 3
	partGatherings = 4
	partSeen       = 5
)

// stockError returns a function that is given one stock after the other, and returns the error of each.
func stockError() func(int, api.PpStock) api.Errno {
	nameError := check.Names(quire.Name)
	return func(_ int, s api.PpStock) api.Errno {
		if e := nameError(s.Name); e != api.OK {
			return e
		}
		return check.Spans(api.MinYear, api.MaxYear, s.Made)
	}
}

// reamError returns a function that returns the error of a ream, which is of one of so many stocks.
func reamError(stocks int) func(int, api.PpReam) api.Errno {
	return func(_ int, r api.PpReam) api.Errno {
		if !check.Within(0, stocks-1, r.Stock) {
			return api.ErrNone
		}
		if e := check.Spans(1, api.MaxPpSheets, r.Sheets); e != api.OK {
			return e
		}
		if r.Sheets.Hi > r.Sheets.Lo+api.MaxPpWide {
			return api.ErrArg
		}
		return api.OK
	}
}

// seenError returns a function that returns the error of a thing seen, which is of one of so many gatherings and stocks.
func seenError(gatherings, stocks int) func(int, api.PpSeen) api.Errno {
	return func(_ int, s api.PpSeen) api.Errno {
		if !check.Within(0, gatherings-1, s.Gathering) || !check.Within(0, stocks-1, s.Stock) {
			return api.ErrNone
		}
		return api.OK
	}
}

// printing is a case without an error that is looked at.
type printing struct {
	api.PpCase
	piles []pile // that can have been, no two of them with the same stocks of all places
}

// open returns the case to look at, or its error.
func open(c api.PpCase) (printing, api.Errno) {
	if _, _, e := Check(c); e != api.OK {
		return printing{}, e
	}
	return printing{c, pilesOf(c)}, api.OK
}

// used returns how many sheets were used of the pile.
func used(c api.PpCase) int { return c.Run * c.Gatherings }

// agreed is a case of which some truths agree.
type agreed struct {
	printing
	truths []truth // those that agree, in the order of their orders
}

// openAgreed returns the case with the truths that agree; or its error, ErrNone if one of some gatherings is none, ErrArg if two of them are the same, or ErrZero if no truth agrees.
func openAgreed(c api.PpCase, gatherings ...int) (agreed, api.Errno) {
	p, e := open(c)
	if e != api.OK {
		return agreed{}, e
	}
	switch {
	case !check.Within(0, p.Gatherings-1, gatherings...):
		return agreed{}, api.ErrNone
	case slices.ContainsFunc(gatherings, check.Again[int]()):
		return agreed{}, api.ErrArg
	}
	truths := p.agreeing()
	if len(truths) == 0 {
		return agreed{}, api.ErrZero
	}
	return agreed{p, truths}, api.OK
}
