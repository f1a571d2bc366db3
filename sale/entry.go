package sale

import (
	"iter"
	"slices"

	"duodecimo/api"
	"duodecimo/check"
	"duodecimo/pick"
)

// entryError returns a function that returns the error of each of these entries, for so many lots.
func entryError(entries []api.SaEntry, lots int) func(int, api.SaEntry) api.Errno {
	return func(i int, x api.SaEntry) api.Errno {
		switch {
		case !check.Within(0, lots-1, x.Lot):
			return api.ErrNone
		case i > 0 && x.Lot <= entries[i-1].Lot:
			return api.ErrArg
		case !x.Sold && x.Price != api.Span{}:
			return api.ErrArg
		}
		return check.Spans(0, api.MaxSaPrice, x.Price)
	}
}

// catalogue is entries without an error that are looked at, and the sale that they are of.
type catalogue struct {
	sale
	entries []api.SaEntry
}

// openCatalogue returns the catalogue to look at; or the error of the sale, or that of the catalogue.
func openCatalogue(s api.SaSale, l []api.SaEntry) (catalogue, api.Errno) {
	v, e := open(s)
	if e != api.OK {
		return catalogue{}, e
	}
	if _, e := check.First(l, entryError(l, len(v.Lots))); e != api.OK {
		return catalogue{}, e
	}
	return catalogue{v, l}, api.OK
}

// wrong returns the entries that are not right by some results.
func (c catalogue) wrong(results []api.SaResult) pick.Set {
	var wrong pick.Set
	for i, x := range c.entries {
		r := results[x.Lot]
		// A lot that is not sold has the price 0 on both sides.
		if x.Sold == (r == nobody()) || !check.Within(x.Price.Lo, x.Price.Hi, r.Price) {
			wrong |= pick.One(i)
		}
	}
	return wrong
}

// right reports whether all entries are right by some results.
func (c catalogue) right(results []api.SaResult) bool { return c.wrong(results) == 0 }

// faults yields the entries that are wrong with each ring. The fewest without which there is a ring for all others are among them.
func (c catalogue) faults() iter.Seq[pick.Set] {
	return func(yield func(pick.Set) bool) {
		for ring := range c.rings() {
			if !yield(c.wrong(c.results(ring))) {
				return
			}
		}
	}
}

// rightRings returns all rings with which all entries are right, in their order; or the error of the sale, or that of the catalogue, or ErrZero if there is no such ring.
func rightRings(s api.SaSale, l []api.SaEntry) ([]pick.Set, api.Errno) {
	c, e := openCatalogue(s, l)
	if e != api.OK {
		return nil, e
	}
	rings := slices.Collect(c.ringsWith(c.right))
	if len(rings) == 0 {
		return nil, api.ErrZero
	}
	return rings, api.OK
}
