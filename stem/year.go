package stem

import (
	"iter"
	"slices"

	"duodecimo/api"
)

// years returns in which years each edition of a tree can have been printed, later than the one that it was set from; if no years fit the tree, some edition has none.
func (s stem) years(t tree) []api.Span {
	var years []api.Span
	for _, x := range s.Editions {
		years = append(years, x.Year)
	}
	for range years { // no way from source to source has more editions
		for edition := range years {
			if source := t[edition]; source != api.SmNone {
				years[edition].Lo = max(years[edition].Lo, years[source].Lo+1)
				years[source].Hi = min(years[source].Hi, years[edition].Hi-1)
			}
		}
	}
	return years
}

// fits reports whether years fit a tree.
func (s stem) fits(t tree) bool {
	return !slices.ContainsFunc(s.years(t), func(y api.Span) bool { return y.Lo > y.Hi })
}

// follows reports whether an edition can be later than another one, if no others are looked at.
func (s stem) follows(edition, source int) bool {
	return s.Editions[source].Year.Lo < s.Editions[edition].Year.Hi
}

// dated yields, in their order, the trees that years fit.
func (s stem) dated() iter.Seq[tree] {
	return func(yield func(tree) bool) {
	trees:
		for t := range trees(len(s.Editions)) {
			// Most trees that years do not fit have an edition that cannot be later than its source: they need not be looked at as a whole.
			for edition := range len(s.Editions) {
				if !t.starts(edition) && !s.follows(edition, t[edition]) {
					continue trees
				}
			}
			if s.fits(t) && !yield(t) {
				return
			}
		}
	}
}
