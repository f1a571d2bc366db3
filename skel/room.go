package skel

import (
	"slices"

	"duodecimo/api"
)

// further is a job to which a further forme comes.
type further struct {
	job
	types []int // that it shows
	days  int   // for how many it is printed
	many  int   // how many skeletons the job needs without it
}

// further returns a job in which no formes clash, and a further forme.
func (j job) further(types []int, days int) further {
	return further{j, types, days, j.skeletons().need()}
}

// fits reports whether the further forme can be set and on the press on a day, without a clash, and without one more skeleton.
func (f further) fits(day int) bool {
	last := day + f.days - 1
	if last > api.MaxSkDay {
		return false
	}
	more := f.with(api.SkForme{Set: day, On: day, Off: last}, f.types)
	return !more.clashes() && more.skeletons().need() == f.many
}

// with returns the job with one more forme, which shows some types.
func (j job) with(f api.SkForme, types []int) job {
	more := j.SkJob
	more.Formes = append(slices.Clone(j.Formes), f)
	more.Sights = slices.Clone(j.Sights)
	for _, kind := range types {
		more.Sights = append(more.Sights, api.SkSight{Forme: len(j.Formes), Type: kind})
	}
	return newJob(more)
}
