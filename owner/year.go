package owner

import (
	"slices"

	"duodecimo/api"
)

// years are those from which, and those up to which each owner can have had the copy, and those in which each mark can have been made.
type years struct {
	from, to [api.MaxOwOwners]api.Span
	made     [api.MaxOwMarks]api.Span
}

// yearsOf returns the years of each owner and mark of a case, if no others are looked at; what is not possible has no year.
func yearsOf(c api.OwCase, told map[int]deals) years {
	var y years
	for i := range len(c.Owners) {
		o := c.Owners[i]
		life := api.Span{Lo: max(c.Printed, o.Born), Hi: min(c.Now, o.Died)}
		y.from[i] = narrowed(life, told[i].bought...)
		y.to[i] = narrowed(life, told[i].sold...)
	}
	for i, m := range c.Marks {
		y.made[i] = m.Year
	}
	return y
}

// narrowed returns what is left of a span if it must be just each of some years.
func narrowed(s api.Span, years ...int) api.Span {
	for _, y := range years {
		s.Lo, s.Hi = max(s.Lo, y), min(s.Hi, y)
	}
	return s
}

// step says that one year is not later than another one.
type step struct{ first, then *api.Span }

// steps returns which of some years are not later than others, if owners have the copy in a layered order. All steps to a year come before those from it, so that once through them is enough.
func (y *years) steps(order []int, marks []api.OwMark) []step {
	list := make([]step, 0, 2*len(order)+3*len(marks))
	for i, owner := range order {
		from, to := &y.from[owner], &y.to[owner]
		if i > 0 {
			list = append(list, step{&y.to[order[i-1]], from})
		}
		for k, m := range marks {
			if m.Owner != owner {
				continue
			}
			if m.Upon != api.OwNone {
				list = append(list, step{&y.made[m.Upon], &y.made[k]})
			}
			list = append(list, step{from, &y.made[k]}, step{&y.made[k], to})
		}
		list = append(list, step{from, to})
	}
	return list
}

// dates returns all years that there are in chains of a layered order; if there is no chain, something has no year.
func (v volume) dates(order []int) years {
	y := v.years
	steps := y.steps(order, v.Marks)
	for _, s := range steps {
		s.then.Lo = max(s.then.Lo, s.first.Lo)
	}
	for _, s := range slices.Backward(steps) {
		s.first.Hi = min(s.first.Hi, s.then.Hi)
	}
	return y
}

// possible reports whether there is a year of each span.
func possible(spans ...api.Span) bool {
	return !slices.ContainsFunc(spans, func(s api.Span) bool { return s.Lo > s.Hi })
}

// holds returns who has the copy in the chain of an order that is told: from the earliest years, and up to the latest ones with these.
func (y years) holds(order []int) []api.OwHold {
	var list []api.OwHold
	for i, owner := range order {
		h := api.OwHold{Owner: owner, From: y.from[owner].Lo, To: y.to[owner].Hi}
		if i+1 < len(order) {
			h.To = min(h.To, y.from[order[i+1]].Lo)
		}
		list = append(list, h)
	}
	return list
}
