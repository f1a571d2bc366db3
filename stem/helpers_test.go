package stem_test

import (
	"math"
	"slices"
	"sync"
	"testing"

	"duodecimo/api"
	"duodecimo/stem"
)

func span(lo, hi int) api.Span { return api.Span{Lo: lo, Hi: hi} }

func place(name string, kind int) api.SmPlace { return api.SmPlace{Name: name, Kind: kind} }

func edition(name string, lo, hi int, readings ...int) api.SmEdition {
	return api.SmEdition{Name: name, Year: span(lo, hi), Readings: readings}
}

// The editions of the chapter's example.
const (
	q1 = 0
	q2 = 1
	f1 = 2
	q3 = 3
)

// example is S of the chapter's examples.
func example() api.SmStem {
	return api.SmStem{
		Places: []api.SmPlace{place("a", api.SmFree), place("b", api.SmOne), place("c", api.SmFree)},
		Editions: []api.SmEdition{
			edition("q1", 1600, 1600, 1, 1, 1),
			edition("q2", 1605, 1610, 2, 1, 1),
			edition("f1", 1623, 1623, 2, 2, 1),
			edition("q3", 1608, 1630, 0, 1, 2),
		},
	}
}

// stemOf is a stem of editions with these readings, of any years, and places of these kinds.
func stemOf(kinds []int, readings ...[]int) api.SmStem {
	var s api.SmStem
	for i, kind := range kinds {
		s.Places = append(s.Places, place(string(rune('a'+i)), kind))
	}
	for i, list := range readings {
		s.Editions = append(s.Editions, edition(string(rune('a'+i)), api.MinYear, api.MaxYear, slices.Clone(list)...))
	}
	return s
}

// dated is a stem whose editions are of these years.
func dated(s api.SmStem, years ...api.Span) api.SmStem {
	s = cloned(s)
	for i, y := range years {
		s.Editions[i].Year = y
	}
	return s
}

// crossed is a stem with two places at which readings cannot come back: each of two editions has one that the other one has lost.
func crossed() api.SmStem {
	return stemOf([]int{api.SmOne, api.SmFree, api.SmOne}, []int{1, 1, 2}, []int{2, 1, 1})
}

// together is the example with all editions of the same year.
func together() api.SmStem {
	y := span(1600, 1600)
	return dated(example(), y, y, y, y)
}

// cloned is a stem that shares no memory with the other one.
func cloned(s api.SmStem) api.SmStem {
	s.Places, s.Editions = slices.Clone(s.Places), slices.Clone(s.Editions)
	for i, x := range s.Editions {
		s.Editions[i].Readings = slices.Clone(x.Readings)
	}
	return s
}

// same reports whether two stems are the same.
func same(s, d api.SmStem) bool {
	return slices.Equal(s.Places, d.Places) && slices.EqualFunc(s.Editions, d.Editions, func(x, y api.SmEdition) bool {
		return x.Name == y.Name && x.Year == y.Year && slices.Equal(x.Readings, y.Readings)
	})
}

// reading is a stem in which an edition has another reading at a place.
func reading(s api.SmStem, edition, place, n int) api.SmStem {
	s = cloned(s)
	s.Editions[edition].Readings[place] = n
	return s
}

// without is a stem without some places.
func without(s api.SmStem, places []int) api.SmStem {
	s = cloned(s)
	for _, place := range slices.Backward(places) {
		s.Places = slices.Delete(s.Places, place, place+1)
		for i, x := range s.Editions {
			s.Editions[i].Readings = slices.Delete(x.Readings, place, place+1)
		}
	}
	return s
}

// counted are all lists of n digits below base, counted up.
func counted(base, n int) [][]int {
	list := [][]int{{}}
	for range n {
		var longer [][]int
		for _, l := range list {
			for digit := range base {
				longer = append(longer, append(slices.Clone(l), digit))
			}
		}
		list = longer
	}
	return list
}

// subsets are all lists of numbers below n, ascending: the shortest come first, of those that are as long the first ones compared number by number.
func subsets(n int) [][]int {
	var list [][]int
	for bits := range 1 << n {
		var l []int
		for i := range n {
			if bits>>i&1 == 1 {
				l = append(l, i)
			}
		}
		list = append(list, l)
	}
	slices.SortFunc(list, func(a, b []int) int {
		if len(a) != len(b) {
			return len(a) - len(b)
		}
		return slices.Compare(a, b)
	})
	return list
}

// isTree reports whether just one edition is the first one, and the way from each other one leads to it.
func isTree(list []int) bool {
	first := slices.Index(list, api.SmNone)
	for edition := range list {
		at := edition
		for range list {
			if list[at] != api.SmNone {
				at = list[at]
			}
		}
		if first < 0 || at != first {
			return false
		}
	}
	return true
}

// allTrees are, by how many editions there are, all trees, in their order.
var allTrees = sync.OnceValue(func() [][][]int {
	var all [][][]int
	for n := range api.MaxSmEditions + 1 {
		var trees [][]int
		for _, list := range counted(n+1, n) {
			for i := range list {
				list[i]--
			}
			if isTree(list) {
				trees = append(trees, list)
			}
		}
		all = append(all, trees)
	}
	return all
})

// from are the editions that were set from one, and those that were set from these, and so on, without itself.
func from(tree []int, edition int) []int {
	var list []int
	for other := range tree {
		for at := tree[other]; at != api.SmNone; at = tree[at] {
			if at == edition {
				list = append(list, other)
			}
		}
	}
	return list
}

// yearsOf are all years of each edition of a tree in any years that fit; no lists, if none fit.
func yearsOf(s api.SmStem, tree []int) [][]int {
	years := make([][]int, len(tree))
	var down func(edition int)
	down = func(edition int) {
		for y := s.Editions[edition].Year.Lo; y <= s.Editions[edition].Year.Hi; y++ {
			years[edition] = append(years[edition], y)
		}
		for other, source := range tree {
			if source == edition {
				down(other)
				latest := slices.Max(append([]int{0}, years[other]...))
				years[edition] = slices.DeleteFunc(years[edition], func(y int) bool { return y >= latest })
			}
		}
	}
	var up func(edition int)
	up = func(edition int) {
		first := slices.Min(years[edition])
		for other, source := range tree {
			if source == edition {
				years[other] = slices.DeleteFunc(years[other], func(y int) bool { return y <= first })
				up(other)
			}
		}
	}
	first := slices.Index(tree, api.SmNone)
	down(first)
	if len(years[first]) == 0 {
		return nil
	}
	up(first)
	return years
}

// earlier reports whether an edition is earlier than another one in some years that fit a tree, by trying all years of the other one.
func earlier(s api.SmStem, tree []int, edition, other int) bool {
	for y := s.Editions[other].Year.Lo; y <= s.Editions[other].Year.Hi; y++ {
		d := cloned(s)
		d.Editions[other].Year = span(y, y)
		d.Editions[edition].Year.Hi = min(d.Editions[edition].Year.Hi, y-1)
		if yearsOf(d, tree) != nil {
			return true
		}
	}
	return false
}

// filled is what all editions have at a place in a filling.
type filled [api.MaxSmEditions]int

// fillingsOf are all fillings of a place.
func fillingsOf(s api.SmStem, place int) []filled {
	list := []filled{{}}
	for i, x := range s.Editions {
		var longer []filled
		for _, f := range list {
			for n := 1; n <= api.MaxSmReadings; n++ {
				if x.Readings[place] == 0 || x.Readings[place] == n {
					f[i] = n
					longer = append(longer, f)
				}
			}
		}
		list = longer
	}
	return list
}

// changed is how many changes a filling of a place makes of a tree, and whether it is possible.
func changed(kind int, tree []int, f filled) (int, bool) {
	many := 0
	for edition, source := range tree {
		if source == api.SmNone || f[edition] == f[source] {
			continue
		}
		if kind == api.SmOne && f[edition] < f[source] {
			return 0, false
		}
		many++
	}
	return many, true
}

// model is a stem with all fillings of each place.
type model struct {
	api.SmStem
	fillings [][]filled
}

func modelOf(s api.SmStem) model {
	m := model{SmStem: s}
	for place := range s.Places {
		m.fillings = append(m.fillings, fillingsOf(s, place))
	}
	return m
}

// fewest are the fewest changes of a tree at a place, and the fillings that make just these; none if no filling is possible.
func (m model) fewest(tree []int, place int) (int, []filled) {
	fewest := math.MaxInt
	var list []filled
	for _, f := range m.fillings[place] {
		n, can := changed(m.Places[place].Kind, tree, f)
		if !can || n > fewest {
			continue
		}
		if n < fewest {
			fewest, list = n, nil
		}
		list = append(list, f)
	}
	return fewest, list
}

// changes are the changes of a tree, if it is possible.
func (m model) changes(tree []int) (int, api.Errno) {
	if yearsOf(m.SmStem, tree) == nil {
		return 0, api.ErrDown
	}
	many := 0
	for place := range m.Places {
		n, list := m.fewest(tree, place)
		if list == nil {
			return 0, api.ErrDown
		}
		many += n
	}
	return many, api.OK
}

// cleanAt reports whether a tree is clean at a place: whether some filling that is possible has as many changes as it must have.
func (m model) cleanAt(tree []int, place int) bool {
	known := map[int]bool{}
	for _, x := range m.Editions {
		known[x.Readings[place]] = true
	}
	delete(known, 0)
	want := max(0, len(known)-1)
	return slices.ContainsFunc(m.fillings[place], func(f filled) bool {
		n, can := changed(m.Places[place].Kind, tree, f)
		return can && n == want
	})
}

// clean are the first of the shortest lists of places without which some of the trees that years fit is clean, by trying all lists.
func (m model) clean() ([]int, api.Errno) {
	var dirty [][]int
	for _, tree := range allTrees()[len(m.Editions)] {
		if yearsOf(m.SmStem, tree) == nil {
			continue
		}
		var list []int
		for place := range m.Places {
			if !m.cleanAt(tree, place) {
				list = append(list, place)
			}
		}
		dirty = append(dirty, list)
	}
	for _, some := range subsets(len(m.Places)) {
		if slices.ContainsFunc(dirty, func(list []int) bool { return hasAll(some, list) }) {
			return some, api.OK
		}
	}
	return nil, api.ErrDown
}

// second is the second edition that the compositor of an edition may have had.
func (m model) second(tree []int, edition int) (other, saved int, e api.Errno) {
	source := tree[edition]
	switch {
	case yearsOf(m.SmStem, tree) == nil:
		return 0, 0, api.ErrDown
	case source == api.SmNone:
		return 0, 0, api.ErrArg
	}
	own := m.Editions[edition].Readings
	for i, x := range m.Editions {
		if i == edition || i == source || slices.Contains(from(tree, edition), i) || !earlier(m.SmStem, tree, i, edition) {
			continue
		}
		saves := 0
		for place := range m.Places {
			before := m.Editions[source].Readings[place]
			if before != 0 && own[place] != 0 && own[place] != before && x.Readings[place] == own[place] {
				saves++
			}
		}
		if saves > saved {
			other, saved = i, saves
		}
	}
	if saved == 0 {
		return 0, 0, api.ErrZero
	}
	return other, saved, api.OK
}

// hasAll reports whether a list has all numbers of another one.
func hasAll(list, some []int) bool {
	return !slices.ContainsFunc(some, func(n int) bool { return !slices.Contains(list, n) })
}

// ended is a span from the first to the last of some years.
func ended(years []int) api.Span { return span(years[0], years[len(years)-1]) }

// grown is what is told of a tree.
type grown struct {
	tree     []int
	changes  int
	years    []api.Span
	readings [][][]int // by edition and place
	other    []int
	saved    []int
	possible api.Errno   // of Changes and Reading
	dated    api.Errno   // of Years
	second   []api.Errno // of Second
}

// told is what all functions but Check say of a stem, and of some of its trees.
type told struct {
	apart   [][][]int
	best    []int
	changes int
	many    int
	first   []int
	from    [][]int
	clean   []int
	down    api.Errno // of Best, First and From
	dated   api.Errno // of Clean
	trees   []grown
}

// tell asks all functions but Check of a stem without an error, and of some of its trees.
func tell(t *testing.T, s api.SmStem, trees [][]int) told {
	t.Helper()
	var x told
	expect := func(name string, e, want api.Errno) {
		if e != want {
			t.Fatalf("%s of %v: %d, not %d", name, s, e, want)
		}
	}
	var e api.Errno
	x.best, x.changes, x.many, x.down = stem.Best(s)
	x.first, e = stem.First(s)
	expect("First", e, x.down)
	x.clean, x.dated = stem.Clean(s)
	n := len(s.Editions)
	x.apart, x.from = make([][][]int, n), make([][]int, n)
	for i := range n {
		for k := range n {
			apart, e := stem.Apart(s, i, k)
			expect("Apart", e, api.OK)
			from, e := stem.From(s, i, k)
			expect("From", e, x.down)
			x.apart[i], x.from[i] = append(x.apart[i], apart), append(x.from[i], from)
		}
	}
	for _, tree := range trees {
		x.trees = append(x.trees, tellTree(t, s, tree))
	}
	return x
}

// tellTree asks all functions about a tree of a stem.
func tellTree(t *testing.T, s api.SmStem, tree []int) grown {
	t.Helper()
	g := grown{tree: tree, readings: make([][][]int, len(tree))}
	g.changes, g.possible = stem.Changes(s, tree)
	g.years, g.dated = stem.Years(s, tree)
	for i := range tree {
		for place := range s.Places {
			list, e := stem.Reading(s, tree, i, place)
			if e != g.possible {
				t.Fatalf("Reading of %v, %v: %d, not %d", s, tree, e, g.possible)
			}
			g.readings[i] = append(g.readings[i], list)
		}
		other, saved, e := stem.Second(s, tree, i)
		g.other, g.saved, g.second = append(g.other, other), append(g.saved, saved), append(g.second, e)
	}
	return g
}

// modelled is what must be told of a stem, and of some of its trees.
func modelled(s api.SmStem, trees [][]int) told {
	m := modelOf(s)
	var x told
	n := len(s.Editions)
	x.apart, x.from = make([][][]int, n), make([][]int, n)
	best := m.best()
	for i := range n {
		for k := range n {
			x.apart[i] = append(x.apart[i], m.apart(i, k))
			x.from[i] = append(x.from[i], fromOf(best, i, k))
		}
		if slices.ContainsFunc(best, func(tree []int) bool { return tree[i] == api.SmNone }) {
			x.first = append(x.first, i)
		}
	}
	x.down = api.ErrDown
	if len(best) > 0 {
		x.best, x.many = best[0], len(best)
		x.changes, x.down = m.changes(best[0])
	}
	x.clean, x.dated = m.clean()
	for _, tree := range trees {
		x.trees = append(x.trees, m.grown(tree))
	}
	return x
}

// apart are the places at which two editions are known to differ.
func (m model) apart(i, k int) []int {
	var list []int
	for place := range m.Places {
		x, y := m.Editions[i].Readings[place], m.Editions[k].Readings[place]
		if x*y > 0 && x != y {
			list = append(list, place)
		}
	}
	return list
}

// best are the possible trees with the fewest changes.
func (m model) best() [][]int {
	var best [][]int
	fewest := math.MaxInt
	for _, tree := range allTrees()[len(m.Editions)] {
		n, e := m.changes(tree)
		if e != api.OK || n > fewest {
			continue
		}
		if n < fewest {
			best, fewest = nil, n
		}
		best = append(best, tree)
	}
	return best
}

// fromOf is whether an edition was set from another one in all of the best trees, or in some.
func fromOf(best [][]int, source, edition int) int {
	many := 0
	for _, tree := range best {
		if tree[edition] == source {
			many++
		}
	}
	switch {
	case len(best) == 0:
		return 0
	case many == 0:
		return api.SmNever
	case many == len(best):
		return api.SmSure
	}
	return api.SmMay
}

// grown is what must be told of a tree.
func (m model) grown(tree []int) grown {
	g := grown{tree: tree, readings: make([][][]int, len(tree)), dated: api.ErrDown}
	g.changes, g.possible = m.changes(tree)
	if all := yearsOf(m.SmStem, tree); all != nil {
		g.dated = api.OK
		for _, years := range all {
			g.years = append(g.years, ended(years))
		}
	}
	for i := range tree {
		for place := range m.Places {
			var list []int
			if g.possible == api.OK {
				_, fillings := m.fewest(tree, place)
				for _, f := range fillings {
					list = append(list, f[i])
				}
				slices.Sort(list)
				list = slices.Compact(list)
			}
			g.readings[i] = append(g.readings[i], list)
		}
		other, saved, e := m.second(tree, i)
		g.other, g.saved, g.second = append(g.other, other), append(g.saved, saved), append(g.second, e)
	}
	return g
}

// deeply reports whether two lists of lists are the same.
func deeply(x, y [][]int) bool { return slices.EqualFunc(x, y, slices.Equal) }

// differ says in what two answers differ.
func differ(x, y told) string {
	switch {
	case x.down != y.down || x.dated != y.dated:
		return "errors"
	case !slices.EqualFunc(x.apart, y.apart, deeply):
		return "Apart"
	case !slices.Equal(x.best, y.best) || x.changes != y.changes || x.many != y.many:
		return "Best"
	case !slices.Equal(x.first, y.first):
		return "First"
	case !deeply(x.from, y.from):
		return "From"
	case !slices.Equal(x.clean, y.clean):
		return "Clean"
	}
	for i := range x.trees {
		if what := differInTree(x.trees[i], y.trees[i]); what != "" {
			return what
		}
	}
	return ""
}

// differInTree says in what two answers of a tree differ.
func differInTree(x, y grown) string {
	switch {
	case x.possible != y.possible || x.dated != y.dated || !slices.Equal(x.second, y.second):
		return "errors of a tree"
	case x.changes != y.changes:
		return "Changes"
	case !slices.Equal(x.years, y.years):
		return "Years"
	case !slices.EqualFunc(x.readings, y.readings, deeply):
		return "Reading"
	case !slices.Equal(x.other, y.other) || !slices.Equal(x.saved, y.saved):
		return "Second"
	}
	return ""
}

// numbers are ints far beyond all limits, and about some.
func numbers(limits ...int) []int {
	list := []int{math.MinInt, math.MinInt + 1, -1, math.MaxInt - 1, math.MaxInt}
	for _, n := range limits {
		list = append(list, n-1, n, n+1)
	}
	return list
}
