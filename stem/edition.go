package stem

import (
	"duodecimo/api"
	"duodecimo/check"
	"duodecimo/pick"
	"duodecimo/quire"
)

// The parts of a stem in which Check finds an error.
const (
	partNone     = 0
	partPlaces   = 1
	partEditions = 2
)

// unknown is what an edition has at a place if its reading there is not known.
const unknown = 0

// placeError returns a function that is given one place after the other, and returns the error of each.
func placeError() func(int, api.SmPlace) api.Errno {
	nameError := check.Names(quire.Name)
	return func(_ int, p api.SmPlace) api.Errno {
		if e := nameError(p.Name); e != api.OK {
			return e
		}
		if p.Kind != api.SmFree && p.Kind != api.SmOne {
			return api.ErrRange
		}
		return api.OK
	}
}

// editionError returns a function that is given one edition after the other, and returns the error of each, which has readings of so many places.
func editionError(places int) func(int, api.SmEdition) api.Errno {
	nameError := check.Names(quire.Name)
	return func(_ int, x api.SmEdition) api.Errno {
		if e := nameError(x.Name); e != api.OK {
			return e
		}
		if e := check.Spans(api.MinYear, api.MaxYear, x.Year); e != api.OK {
			return e
		}
		switch {
		case len(x.Readings) != places:
			return api.ErrLong
		case !check.Within(unknown, api.MaxSmReadings, x.Readings...):
			return api.ErrRange
		}
		return api.OK
	}
}

// stem is a stem without an error that is looked at.
type stem struct {
	api.SmStem
	columns []column
}

// open returns the stem to look at; or its error, or ErrNone if one of some editions is none.
func open(s api.SmStem, editions ...int) (stem, api.Errno) {
	if _, _, e := Check(s); e != api.OK {
		return stem{}, e
	}
	l := stem{s, columnsOf(s)}
	if !l.has(editions...) {
		return stem{}, api.ErrNone
	}
	return l, api.OK
}

// openTree returns the stem to look at, and the tree; or the error of the stem, or of the tree, or ErrNone if one of some editions is none.
func openTree(s api.SmStem, list []int, editions ...int) (stem, tree, api.Errno) {
	l, e := open(s)
	if e != api.OK {
		return stem{}, tree{}, e
	}
	t, e := treeOf(list, len(l.Editions))
	if e != api.OK {
		return stem{}, tree{}, e
	}
	if !l.has(editions...) {
		return stem{}, tree{}, api.ErrNone
	}
	return l, t, api.OK
}

// has reports whether all of some editions are there.
func (s stem) has(editions ...int) bool { return check.Within(0, len(s.Editions)-1, editions...) }

// apart returns the places at which the readings of two editions are known, and not the same.
func (s stem) apart(a, b int) []int {
	return pick.Where(len(s.Places), func(place int) bool {
		x, y := s.Editions[a].Readings[place], s.Editions[b].Readings[place]
		return x != unknown && y != unknown && x != y
	})
}

// saved returns how many of the changes of an edition of a tree, which is not the first one, another edition saves.
func (s stem) saved(t tree, edition, other int) int {
	many := 0
	for _, place := range s.apart(edition, t[edition]) {
		if s.Editions[other].Readings[place] == s.Editions[edition].Readings[place] {
			many++
		}
	}
	return many
}

// seconds returns the editions that save a change of an edition of a tree, and that its compositor may have had beside the one that it was set from.
func (s stem) seconds(t tree, edition int) []int {
	years := s.years(t)
	return pick.Where(len(s.Editions), func(other int) bool {
		// The one that it was set from saves none.
		return s.saved(t, edition, other) > 0 && !t.leads(other, edition) && years[other].Lo < years[edition].Hi
	})
}
