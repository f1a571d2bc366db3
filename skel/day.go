package skel

import (
	"iter"

	"duodecimo/api"
	"duodecimo/pick"
)

// use tells of a forme from which day to which one it is in some use.
type use struct{ from, to func(api.SkForme) int }

// standing tells when a forme stands.
func standing() use {
	return use{
		from: func(f api.SkForme) int { return f.Set },
		to:   func(f api.SkForme) int { return f.Off },
	}
}

// printing tells when a forme is printed.
func printing() use {
	return use{
		from: func(f api.SkForme) int { return f.On },
		to:   func(f api.SkForme) int { return f.Off },
	}
}

// on reports whether a forme is in use on a day.
func (u use) on(f api.SkForme, day int) bool { return u.from(f) <= day && day <= u.to(f) }

// both reports whether two formes are both in use on some day.
func (u use) both(f, g api.SkForme) bool { return u.from(f) <= u.to(g) && u.from(g) <= u.to(f) }

// together returns for each forme the others that are in use on some day on which it is.
func (u use) together(formes []api.SkForme) sets {
	var others sets
	for a, f := range formes {
		for b, g := range formes {
			if a != b && u.both(f, g) {
				others[a] |= pick.One(b)
			}
		}
	}
	return others
}

// allDays yields all days, the first one first.
func allDays() iter.Seq[int] {
	return func(yield func(int) bool) {
		for day := range api.MaxSkDay + 1 {
			if !yield(day) {
				return
			}
		}
	}
}

// firstDay returns the first day on which something is so, and whether there is such a day.
func firstDay(isSo func(day int) bool) (int, bool) {
	for day := range allDays() {
		if isSo(day) {
			return day, true
		}
	}
	return 0, false
}

// standingOn returns the formes that stand on a day.
func (j job) standingOn(day int) []int {
	return pick.Where(len(j.Formes), func(forme int) bool { return standing().on(j.Formes[forme], day) })
}

// fuller reports whether more formes stand on a day than on another one.
func (j job) fuller(day, other int) bool { return len(j.standingOn(day)) > len(j.standingOn(other)) }

// crack returns from which day to which one a type can have cracked, and whether it can.
func (j job) crack(kind int) (days api.Span, can bool) {
	days = api.Span{Lo: 0, Hi: api.MaxSkDay + 1}
	for _, s := range j.Sights {
		if s.Type != kind {
			continue
		}
		switch f := j.Formes[s.Forme]; s.Look {
		case api.SkWhole:
			days.Lo = max(days.Lo, f.On+1)
		case api.SkCracked:
			days.Hi = min(days.Hi, f.Off)
		}
	}
	return days, days.Lo <= days.Hi
}

// agrees reports whether all sightings agree.
func (j job) agrees() bool {
	if j.clashes() {
		return false
	}
	for kind := range j.Types {
		if _, can := j.crack(kind); !can {
			return false
		}
	}
	return true
}
