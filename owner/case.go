package owner

import (
	"duodecimo/api"
	"duodecimo/check"
	"duodecimo/pick"
	"duodecimo/quire"
)

// The parts of a case in which Check finds an error.
const (
	partNone   = 0
	partYears  = 1
	partOwners = 2
	partMarks  = 3
	partSales  = 4
)

// maxLife is the last year in which an owner can be born, or die.
const maxLife = 9999

// ownerError returns a function that is given one owner after the other, and returns the error of each.
func ownerError() func(int, api.OwOwner) api.Errno {
	nameError := check.Names(quire.Name)
	return func(_ int, o api.OwOwner) api.Errno {
		if e := nameError(o.Name); e != api.OK {
			return e
		}
		return check.Spans(0, maxLife, api.Span{Lo: o.Born, Hi: o.Died})
	}
}

// markError returns a function that returns the error of a mark of a case, whose index is given, too.
func markError(c api.OwCase) func(int, api.OwMark) api.Errno {
	return func(i int, m api.OwMark) api.Errno {
		if !check.Within(0, len(c.Owners)-1, m.Owner) || !check.Within(api.OwNone, i-1, m.Upon) {
			return api.ErrNone
		}
		if e := check.Spans(c.Printed, c.Now, m.Year); e != api.OK {
			return e
		}
		if m.Year.Hi > m.Year.Lo+api.MaxOwWide {
			return api.ErrArg
		}
		return api.OK
	}
}

// saleError returns a function that returns the error of a sale of a case.
func saleError(c api.OwCase) func(int, api.OwSale) api.Errno {
	return func(_ int, s api.OwSale) api.Errno {
		switch {
		case !during(c, s.Year):
			return api.ErrRange
		case !check.Within(api.OwNone, len(c.Owners)-1, s.From, s.To):
			return api.ErrNone
		case s.From == s.To:
			return api.ErrArg
		}
		return api.OK
	}
}

// during reports whether a year is from Printed to Now.
func during(c api.OwCase, year int) bool { return check.Within(c.Printed, c.Now, year) }

// deals are what sales say of an owner: the years in which the copy was bought, and sold, and to whom.
type deals struct{ bought, sold, buyers []int }

// dealsOf returns what sales say of each owner whom they know.
func dealsOf(c api.OwCase) map[int]deals {
	told := map[int]deals{}
	for i, s := range c.Sales {
		if i > 0 && s == c.Sales[i-1] {
			continue
		}
		if s.From != api.OwNone {
			d := told[s.From]
			d.sold = append(d.sold, s.Year)
			if s.To != api.OwNone {
				d.buyers = append(d.buyers, s.To)
			}
			told[s.From] = d
		}
		if s.To != api.OwNone {
			d := told[s.To]
			d.bought = append(d.bought, s.Year)
			told[s.To] = d
		}
	}
	return told
}

// volume is a copy that is looked at: a case without an error, and what is known of each of its owners and marks alone.
type volume struct {
	api.OwCase
	told map[int]deals // what sales say of each owner whom they know
	years
}

// newVolume returns the copy to look at.
func newVolume(c api.OwCase) volume {
	told := dealsOf(c)
	return volume{c, told, yearsOf(c, told)}
}

// open returns the copy to look at, or the error of its case.
func open(c api.OwCase) (volume, api.Errno) {
	if _, _, e := Check(c); e != api.OK {
		return volume{}, e
	}
	return newVolume(c), api.OK
}

// without returns the copy without some marks.
func (v volume) without(some pick.Set) volume {
	less := v.OwCase
	less.Marks = nil
	now := map[int]int{} // by the indices that marks had
	for i, m := range v.Marks {
		if some.Has(i) {
			continue
		}
		upon, stays := now[m.Upon]
		if !stays {
			upon = api.OwNone
		}
		m.Upon = upon
		now[i] = len(less.Marks)
		less.Marks = append(less.Marks, m)
	}
	return newVolume(less)
}
