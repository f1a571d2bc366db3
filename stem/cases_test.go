package stem_test

import (
	"math/rand"
	"slices"
	"sync"
	"testing"

	"duodecimo/api"
)

// history is how editions were set from each other: what is known of them, from which one each was set, in which year, and which readings it had.
type history struct {
	api.SmStem
	tree, years []int
	readings    [][]int
}

// changes are how many changes there were.
func (h history) changes() int {
	many := 0
	for edition, source := range h.tree {
		for place := range h.Places {
			if source != api.SmNone && h.readings[edition][place] != h.readings[source][place] {
				many++
			}
		}
	}
	return many
}

// size says how large a stem is, how many of ten readings are lost, and how widely years are known.
type size struct{ places, editions, lost, wide int }

// someSize is the size of some stem.
func someSize(r *rand.Rand) size {
	wide := []int{1, 2, 5, 20, 100}
	return size{1 + r.Intn(api.MaxSmPlaces), 1 + r.Intn(api.MaxSmEditions), r.Intn(8), wide[r.Intn(len(wide))]}
}

// most is the size of the largest stems.
func most(r *rand.Rand) size {
	s := someSize(r)
	s.places, s.editions = api.MaxSmPlaces, api.MaxSmEditions
	return s
}

// someTree is some tree, by hanging each edition on one that is there.
func someTree(r *rand.Rand, editions int) []int {
	tree := make([]int, editions)
	order := r.Perm(editions)
	tree[order[0]] = api.SmNone
	for i, edition := range order {
		if i > 0 {
			tree[edition] = order[r.Intn(i)]
		}
	}
	return tree
}

// someYears are years of the editions of a tree, each later than its source.
func someYears(r *rand.Rand, tree []int) []int {
	years := make([]int, len(tree))
	var date func(edition, year int)
	date = func(edition, year int) {
		years[edition] = year
		for other, source := range tree {
			if source == edition {
				date(other, year+1+r.Intn(6))
			}
		}
	}
	latest := api.MaxYear - 6*(len(tree)-1)
	date(slices.Index(tree, api.SmNone), []int{api.MinYear, 1600, latest}[r.Intn(3)])
	return years
}

// become is a reading that another one can become at a place, mostly itself.
func become(r *rand.Rand, kind, reading int) int {
	n := 1 + r.Intn(api.MaxSmReadings)
	if r.Intn(2) == 0 || kind == api.SmOne && n < reading {
		return reading
	}
	return n
}

// about is a span about a year.
func about(r *rand.Rand, year, wide int) api.Span {
	lo := max(api.MinYear, year-r.Intn(wide))
	return span(lo, min(api.MaxYear, year+r.Intn(wide)))
}

// someHistory is how editions were set from each other, of this size.
func someHistory(r *rand.Rand, s size) history {
	h := history{tree: someTree(r, s.editions), readings: make([][]int, s.editions)}
	h.years = someYears(r, h.tree)
	var kinds []int
	for range s.places {
		kinds = append(kinds, r.Intn(2))
	}
	var set func(edition int, from []int)
	set = func(edition int, from []int) {
		for place, reading := range from {
			h.readings[edition] = append(h.readings[edition], become(r, kinds[place], reading))
		}
		for other, source := range h.tree {
			if source == edition {
				set(other, h.readings[edition])
			}
		}
	}
	set(slices.Index(h.tree, api.SmNone), slices.Repeat([]int{1}, s.places))
	h.SmStem = stemOf(kinds, h.readings...)
	for i, x := range h.Editions {
		h.Editions[i].Year = about(r, h.years[i], s.wide)
		for place := range x.Readings {
			if r.Intn(10) < s.lost {
				x.Readings[place] = 0
			}
		}
	}
	return h
}

// disturbed is a stem in which so many readings and years are others.
func disturbed(r *rand.Rand, s api.SmStem, many int) api.SmStem {
	s = cloned(s)
	for range many {
		x := &s.Editions[r.Intn(len(s.Editions))]
		if r.Intn(3) == 0 {
			x.Year = about(r, 1580+r.Intn(40), 1+r.Intn(10))
		} else {
			x.Readings[r.Intn(len(s.Places))] = r.Intn(api.MaxSmReadings + 1)
		}
	}
	return s
}

// crowded is a stem whose editions are of a few years, which can be fewer than there are editions.
func crowded(r *rand.Rand, s api.SmStem) api.SmStem {
	var years []api.Span
	for range s.Editions {
		years = append(years, about(r, 1600, 1+r.Intn(2)))
	}
	return dated(s, years...)
}

// wellKnown is a stem with the same years of which all readings are known, and any reading can come back at some places.
func wellKnown(r *rand.Rand, s api.SmStem) api.SmStem {
	s = cloned(s)
	for place := range s.Places {
		s.Places[place].Kind = r.Intn(4) / 3
		for _, x := range s.Editions {
			x.Readings[place] = 1 + r.Intn(api.MaxSmReadings)
		}
	}
	return s
}

// specialStems are stems at the limits, and for which no tree is possible.
func specialStems() []api.SmStem {
	free, one := make([]int, api.MaxSmPlaces), slices.Repeat([]int{api.SmOne}, api.MaxSmPlaces)
	none := make([]int, api.MaxSmPlaces)
	lost := stemOf(free, none, none, none, none, none)
	known := stemOf(one, []int{1, 1, 2, 2, 3, 3}, []int{2, 1, 2, 2, 3, 3}, []int{1, 2, 3, 2, 3, 3}, []int{2, 2, 2, 3, 3, 3}, []int{1, 1, 2, 1, 1, 1})
	step := func(n int) api.Span { return span(1600+n, 1600+n) }
	return []api.SmStem{
		example(), crossed(), together(), lost, known,
		stemOf([]int{api.SmFree}, []int{0}), stemOf([]int{api.SmOne}, []int{3}),
		stemOf(one, none, none, none, none, none),
		stemOf(free, []int{1, 1, 1, 1, 1, 1}, []int{2, 2, 2, 2, 2, 2}, []int{3, 3, 3, 3, 3, 3}, []int{1, 1, 1, 1, 1, 1}, []int{2, 2, 2, 2, 2, 2}),
		dated(lost, step(0), step(0), step(0), step(0), step(0)),
		dated(lost, step(0), step(1), step(2), step(3), step(4)),
		dated(known, step(4), step(3), step(2), step(1), step(0)),
		dated(lost, span(1450, 1451), span(1450, 1451), span(1450, 1451), span(1450, 1451), span(1450, 1451)),
		dated(known, span(1850, 1850), span(1849, 1850), span(1848, 1850), span(1847, 1850), span(1450, 1850)),
		dated(crossed(), step(0), step(0)), dated(crossed(), step(1), step(0)),
		stemOf([]int{api.SmOne, api.SmOne, api.SmFree}, []int{1, 2, 1}, []int{2, 1, 2}, []int{0, 0, 3}, []int{3, 0, 1}),
	}
}

// stems are stems without an error, always the same ones.
var stems = sync.OnceValue(func() []api.SmStem {
	r := rand.New(rand.NewSource(7))
	list := specialStems()
	for i := range 400 {
		s := someSize(r)
		if i%4 == 0 {
			s = most(r)
		}
		x := disturbed(r, someHistory(r, s).SmStem, []int{0, 0, 1, 3, 10, 40}[r.Intn(6)])
		switch i % 8 {
		case 3:
			x = crowded(r, x)
		case 4:
			x = disturbed(r, wellKnown(r, x), 2)
		}
		list = append(list, x)
	}
	return list
})

// sampled are some trees of a stem: all, if there are few; otherwise some that years fit, and some that they do not.
func sampled(s api.SmStem) [][]int {
	trees := allTrees()[len(s.Editions)]
	if len(trees) < 10 {
		return trees
	}
	var fit, not [][]int
	for _, tree := range trees {
		if yearsOf(s, tree) != nil {
			fit = append(fit, tree)
		} else {
			not = append(not, tree)
		}
	}
	var list [][]int
	for i := range 12 {
		if len(fit) > 0 {
			list = append(list, fit[i*len(fit)/12])
		}
		if len(not) > 0 && i%4 == 0 {
			list = append(list, not[i*len(not)/12])
		}
	}
	return list
}

// samples are some trees of each stem.
var samples = sync.OnceValue(func() [][][]int {
	var list [][][]int
	for _, s := range stems() {
		list = append(list, sampled(s))
	}
	return list
})

// answers are what is told of each of the stems, asked once for all tests.
func answers(t *testing.T) []told {
	t.Helper()
	all.Do(func() {
		for i, s := range stems() {
			allAnswers = append(allAnswers, tell(t, s, samples()[i]))
		}
	})
	return allAnswers
}

var (
	all        sync.Once
	allAnswers []told
)

// models are what must be told of each of the stems.
var models = sync.OnceValue(func() []told {
	var list []told
	for i, s := range stems() {
		list = append(list, modelled(s, samples()[i]))
	}
	return list
})
