package stem

import (
	"slices"

	"duodecimo/api"
	"duodecimo/pick"
)

// never is more than the changes of any tree: as many or more has what is not possible.
const never = 1000

// column is a place, and the reading that each edition has there.
type column struct {
	api.SmPlace
	readings [api.MaxSmEditions]int
}

// columnsOf returns the places of a stem with their readings.
func columnsOf(s api.SmStem) []column {
	var columns []column
	for place, p := range s.Places {
		x := column{SmPlace: p}
		for edition, y := range s.Editions {
			x.readings[edition] = y.Readings[place]
		}
		columns = append(columns, x)
	}
	return columns
}

// row has the fewest changes for each reading; unknown is no reading, and never possible.
type row [api.MaxSmReadings + 1]int

// can reports whether an edition has a reading, or can have it as its own is unknown.
func (x column) can(edition, reading int) bool {
	own := x.readings[edition]
	return reading != unknown && (own == unknown || own == reading)
}

// row returns the fewest changes of all editions of a tree that come from one, for each reading of this one.
func (x column) row(t tree, edition int) row {
	var r row
	for reading := range r {
		if !x.can(edition, reading) {
			r[reading] = never
		}
	}
	for other, source := range t {
		if source == edition {
			next := x.row(t, other)
			for reading := range r {
				r[reading] += x.step(reading, next)
			}
		}
	}
	return r
}

// step returns the fewest changes of an edition with this row, and of all that come from it, if the one that it was set from has a reading.
func (x column) step(from int, r row) int {
	fewest := r[from]
	for to, changes := range r {
		if x.Kind == api.SmFree || to > from {
			fewest = min(fewest, changes+1)
		}
	}
	return fewest
}

// changes returns the fewest changes of a tree at the place.
func (x column) changes(t tree) int {
	r := x.row(t, t.first())
	return slices.Min(r[:])
}

// best returns the readings, ascending, with which an edition of a possible tree leaves it as few changes at the place as it has.
func (x column) best(t tree, edition int) []int {
	could := pick.Where(len(row{}), func(reading int) bool { return x.can(edition, reading) })
	readings, _ := costsOf(slices.Values(could), func(reading int) int {
		y := x
		y.readings[edition] = reading
		return y.changes(t)
	}).fewest()
	return readings
}

// arising returns how many changes the place has at least: all readings that are known but one must have arisen.
func (x column) arising() int {
	var known pick.Set
	for _, reading := range x.readings {
		if reading != unknown {
			known |= pick.One(reading)
		}
	}
	return max(0, len(known.List())-1)
}

// changes returns the fewest changes of a tree, whether years fit it or not.
func (s stem) changes(t tree) int {
	all := 0
	for _, x := range s.columns {
		all += x.changes(t)
	}
	return all
}

// possible reports whether a tree is possible.
func (s stem) possible(t tree) bool { return s.fits(t) && s.changes(t) < never }

// unclean returns the places at which a tree is not clean.
func (s stem) unclean(t tree) pick.Set {
	var places pick.Set
	for place, x := range s.columns {
		if x.changes(t) > x.arising() {
			places |= pick.One(place)
		}
	}
	return places
}
