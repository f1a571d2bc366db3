package quire

import (
	"strconv"

	"duodecimo/api"
)

// deed is what a change does to a gathering.
type deed interface {
	// text returns how the change is written in a formula.
	text() string
}

// takenOut is the number of a leaf that is taken out.
type takenOut struct{ at int }

// cancelled is the number of a leaf that another one replaces.
type cancelled struct{ at int }

// putIn says how many leaves are put in, and behind which number.
type putIn struct{ at, many int }

func (d takenOut) text() string { return "-" + strconv.Itoa(d.at) }

func (d cancelled) text() string { return "=" + strconv.Itoa(d.at) }

func (d putIn) text() string { return strconv.Itoa(d.at) + "+" + strconv.Itoa(d.many) }

// deedOf returns what a change does, or nil if its kind is none of the three.
func deedOf(c api.QuChange) deed {
	switch c.Kind {
	case api.QuLess:
		return takenOut{c.At}
	case api.QuSwap:
		return cancelled{c.At}
	case api.QuPlus:
		return putIn{c.At, c.Many}
	}
	return nil
}

// fate is what all changes of a gathering do at one of its numbers.
type fate struct {
	gone, swapped bool
	added         int
}

// fateAt returns what the changes do at a number.
func fateAt(changes []api.QuChange, number int) fate {
	var f fate
	for _, c := range changes {
		if c.At != number {
			continue
		}
		switch d := deedOf(c).(type) {
		case takenOut:
			f.gone = true
		case cancelled:
			f.swapped = true
		case putIn:
			f.added = d.many
		}
	}
	return f
}
