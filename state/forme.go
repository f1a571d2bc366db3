package state

import (
	"slices"

	"duodecimo/api"
	"duodecimo/check"
	"duodecimo/pick"
	"duodecimo/quire"
)

// The parts of a forme in which Check finds an error.
const (
	partNone   = 0
	partLoci   = 1
	partCopies = 2
)

// locusError returns a function that is given one locus after the other, and returns the error of each.
func locusError() func(int, api.StLocus) api.Errno {
	nameError := check.Names(quire.Name)
	return func(_ int, l api.StLocus) api.Errno {
		if e := nameError(l.Name); e != api.OK {
			return e
		}
		if !check.Within(api.StUnknown, api.StB, l.First) {
			return api.ErrRange
		}
		return api.OK
	}
}

// copyError returns a function that is given one copy of a forme with so many loci after the other, and returns the error of each.
func copyError(loci int) func(int, api.StCopy) api.Errno {
	nameError := check.Names(quire.Name)
	return func(_ int, c api.StCopy) api.Errno {
		if e := nameError(c.Name); e != api.OK {
			return e
		}
		switch {
		case len(c.Shows) != loci:
			return api.ErrLong
		case !check.Within(api.StUnknown, api.StB, c.Shows...):
			return api.ErrRange
		}
		return api.OK
	}
}

// shown is what a copy shows: of each reading the loci at which it shows it.
type shown [api.StB + 1]pick.Set

// state is what a forme has at some time, as it matters to copies: of each copy the loci at which it shows the other reading.
type state [api.MaxStCopies]pick.Set

// forme is a forme without an error that is looked at.
type forme struct {
	api.StForme
	shown [api.MaxStCopies]shown
}

// open returns the forme to look at, or the error of the forme.
func open(f api.StForme) (forme, api.Errno) {
	if _, _, e := Check(f); e != api.OK {
		return forme{}, e
	}
	v := forme{StForme: f}
	for i, c := range f.Copies {
		for locus, reading := range c.Shows {
			v.shown[i][reading] |= pick.One(locus)
		}
	}
	return v, api.OK
}

// orderError returns the error of an order.
func (f forme) orderError(o api.StOrder) api.Errno {
	many := len(f.Loci)
	switch {
	case len(o.First) != many || len(o.Loci) != many:
		return api.ErrLong
	case !check.Within(api.StA, api.StB, o.First...) || !check.Within(0, many-1, o.Loci...):
		return api.ErrRange
	}
	if slices.ContainsFunc(o.Loci, check.Again[int]()) {
		return api.ErrTwice
	}
	for i, l := range f.Loci {
		if l.First != api.StUnknown && l.First != o.First[i] {
			return api.ErrArg
		}
	}
	return api.OK
}

// states returns, by the loci that were corrected, all states that the forme can have with these first readings.
func (f forme) states(first []int) map[pick.Set]state {
	var withB pick.Set
	for locus, reading := range first {
		if reading == api.StB {
			withB |= pick.One(locus)
		}
	}
	states := map[pick.Set]state{}
	for corrected := range pick.All(len(first)) + 1 {
		states[corrected] = f.state(withB ^ corrected)
	}
	return states
}

// state returns the state with the reading StB at some loci, and StA at all others.
func (f forme) state(withB pick.Set) state {
	var s state
	for i, c := range f.shown {
		s[i] = c[api.StA]&withB | c[api.StB]&^withB
	}
	return s
}
