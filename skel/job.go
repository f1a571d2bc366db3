package skel

import (
	"duodecimo/api"
	"duodecimo/check"
	"duodecimo/pick"
	"duodecimo/quire"
)

// The parts of a job in which Check finds an error.
const (
	partNone   = 0
	partTypes  = 1
	partFormes = 2
	partSights = 3
)

// typeError returns a function that is given one type after the other, and returns the error of each.
func typeError() func(int, string) api.Errno {
	nameError := check.Names(quire.Name)
	return func(_ int, name string) api.Errno { return nameError(name) }
}

// formeError returns a function that is given one forme after the other, and returns the error of each.
func formeError() func(int, api.SkForme) api.Errno {
	nameError := check.Names(quire.Name)
	return func(_ int, f api.SkForme) api.Errno {
		if e := nameError(f.Name); e != api.OK {
			return e
		}
		switch {
		case !check.Within(0, api.MaxSkDay, f.Set, f.On, f.Off):
			return api.ErrRange
		case f.On < f.Set || f.Off < f.On:
			return api.ErrArg
		}
		return api.OK
	}
}

// sightError returns a function that is given one sighting of a job with so many formes and types after the other, and returns the error of each.
func sightError(formes, types int) func(int, api.SkSight) api.Errno {
	again := check.Again[api.SkSight]()
	return func(_ int, s api.SkSight) api.Errno {
		switch {
		case !check.Within(0, formes-1, s.Forme) || !check.Within(0, types-1, s.Type):
			return api.ErrNone
		case !check.Within(api.SkUnknown, api.SkCracked, s.Look):
			return api.ErrRange
		}
		// It is the same sighting, however the type looks.
		s.Look = api.SkUnknown
		if again(s) {
			return api.ErrTwice
		}
		return api.OK
	}
}

// maxFormes is how many formes are looked at, at most: those of a job, and a further one.
const maxFormes = api.MaxSkFormes + 1

// sets has a set of formes for each forme.
type sets [maxFormes]pick.Set

// job is a job without an error that is looked at.
type job struct {
	api.SkJob
	stands sets // with which others each forme stands on some day
	groups sets // the group of each forme
}

// newJob returns the job to look at.
func newJob(j api.SkJob) job {
	return job{j, standing().together(j.Formes), groupsOf(j)}
}

// open returns the job to look at, or the error of the job.
func open(j api.SkJob) (job, api.Errno) {
	if _, _, e := Check(j); e != api.OK {
		return job{}, e
	}
	return newJob(j), api.OK
}

// openClear returns the job to look at, or the error of the job, or ErrDown if two formes clash.
func openClear(j api.SkJob) (job, api.Errno) {
	v, e := open(j)
	if e == api.OK && v.clashes() {
		return job{}, api.ErrDown
	}
	return v, e
}

// groupsOf returns the group of each forme.
func groupsOf(j api.SkJob) sets {
	var groups sets
	for forme := range j.Formes {
		groups[forme] = pick.One(forme)
	}
	for kind := range j.Types {
		var group pick.Set
		for _, s := range j.Sights {
			if s.Type == kind {
				group |= groups[s.Forme]
			}
		}
		for _, forme := range group.List() {
			groups[forme] = group
		}
	}
	return groups
}

// clash returns the first two formes that clash, and whether there are such.
func (j job) clash() (a, b int, found bool) {
	for forme, group := range j.groups {
		// A forme before this one that clashes with it would have been found itself.
		if clashing := group & j.stands[forme]; clashing != 0 {
			return forme, clashing.Least(), true
		}
	}
	return 0, 0, false
}

// clashes reports whether two formes clash.
func (j job) clashes() bool {
	_, _, found := j.clash()
	return found
}

// without returns the job without some sightings.
func (j job) without(some pick.Set) job {
	less := j.SkJob
	less.Sights = nil
	for i, s := range j.Sights {
		if !some.Has(i) {
			less.Sights = append(less.Sights, s)
		}
	}
	return newJob(less)
}

// only returns the job with just some formes, and what is seen in them.
func (j job) only(some pick.Set) job {
	less := api.SkJob{Types: j.Types}
	now := map[int]int{} // by the indices that formes had
	for _, forme := range some.List() {
		now[forme] = len(less.Formes)
		less.Formes = append(less.Formes, j.Formes[forme])
	}
	for _, s := range j.Sights {
		if forme, in := now[s.Forme]; in {
			s.Forme = forme
			less.Sights = append(less.Sights, s)
		}
	}
	return newJob(less)
}
