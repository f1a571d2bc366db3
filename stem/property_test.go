package stem_test

import (
	"math/rand"
	"slices"
	"testing"

	"duodecimo/api"
	"duodecimo/stem"
)

// changesOf are the changes of a tree by Changes, and whether it is possible.
func changesOf(t *testing.T, s api.SmStem, tree []int) (int, bool) {
	t.Helper()
	n, e := stem.Changes(s, tree)
	if e != api.OK && e != api.ErrDown {
		t.Fatalf("Changes of %v, %v: %d", s, tree, e)
	}
	return n, e == api.OK
}

// P7.8: no possible tree has fewer changes than that of Best, none before it has as few, and there are as many as it says.
func TestNoFewer(t *testing.T) {
	tried := 0
	for i, s := range stems() {
		x := answers(t)[i]
		many, before := 0, true
		for _, tree := range allTrees()[len(s.Editions)] {
			n, possible := changesOf(t, s, tree)
			before = before && !slices.Equal(tree, x.best)
			if !possible {
				continue
			}
			tried++
			if x.down != api.OK || n < x.changes || before && n == x.changes {
				t.Errorf("%v: Best = %v, %d, %d, but %v has %d changes", s, x.best, x.changes, x.down, tree, n)
			}
			if n == x.changes {
				many++
			}
		}
		if x.down == api.OK && before || many != x.many {
			t.Errorf("%v: Best = %v, %d trees, not %d", s, x.best, x.many, many)
		}
	}
	if tried < 5000 {
		t.Errorf("just %d trees are possible", tried)
	}
}

// P7.9: what was is possible, with no more changes than there were, and each year is one of Years.
func TestTrueHistory(t *testing.T) {
	r := rand.New(rand.NewSource(79))
	fewer, lost := 0, 0
	for i := range 500 {
		size := someSize(r)
		if i%4 == 0 {
			size = most(r)
		}
		h := someHistory(r, size)
		n, possible := changesOf(t, h.SmStem, h.tree)
		_, best, _, e := stem.Best(h.SmStem)
		if !possible || n > h.changes() || e != api.OK || best > n {
			t.Errorf("%v: Changes = %d, %v; Best: %d changes, %d", h, n, possible, best, e)
		}
		years, e := stem.Years(h.SmStem, h.tree)
		if e != api.OK {
			t.Errorf("%v: Years: %d", h, e)
			continue
		}
		for k, y := range years {
			if h.years[k] < y.Lo || h.years[k] > y.Hi {
				t.Errorf("%v: Years = %v", h, years)
			}
		}
		if n < h.changes() {
			lost++
		}
		if best < n {
			fewer++
		}
	}
	if lost < 50 || fewer < 50 {
		t.Errorf("%d trees have fewer changes than there were, %d times another one has fewer", lost, fewer)
	}
}

// P7.10: with a reading of Reading a tree has as many changes as before, with any other one more, or it is not possible; one that is known is returned alone.
func TestReadings(t *testing.T) {
	lost, dear, not := 0, 0, 0
	for i, s := range stems() {
		for _, g := range answers(t)[i].trees {
			if g.possible != api.OK {
				continue
			}
			for edition, lists := range g.readings {
				for place, list := range lists {
					if own := s.Editions[edition].Readings[place]; own > 0 && !slices.Equal(list, []int{own}) || len(list) == 0 {
						t.Errorf("%v: Reading of %v, %d, %d = %v", s, g.tree, edition, place, list)
					}
					if s.Editions[edition].Readings[place] > 0 {
						continue
					}
					lost++
					for n := 1; n <= api.MaxSmReadings; n++ {
						changes, possible := changesOf(t, reading(s, edition, place, n), g.tree)
						if slices.Contains(list, n) != (possible && changes == g.changes) || possible && changes < g.changes {
							t.Errorf("%v: Reading of %v, %d, %d = %v, but with %d there are %d changes", s, g.tree, edition, place, list, n, changes)
						}
						if !possible {
							not++
						} else if changes > g.changes {
							dear++
						}
					}
				}
			}
		}
	}
	if lost < 5000 || dear < 1000 || not < 1000 {
		t.Errorf("%d readings are lost; others need more in %d cases, and are not possible in %d", lost, dear, not)
	}
}

// P7.11: a tree has at least as many changes as each edition is apart from its source, together; just as many, if all readings are known.
func TestAtLeast(t *testing.T) {
	more, known := 0, 0
	for i, s := range stems() {
		allKnown := !slices.ContainsFunc(s.Editions, func(x api.SmEdition) bool { return slices.Contains(x.Readings, 0) })
		for _, g := range answers(t)[i].trees {
			if g.possible != api.OK {
				continue
			}
			apart := 0
			for edition, source := range g.tree {
				if source != api.SmNone {
					apart += len(answers(t)[i].apart[edition][source])
				}
			}
			if g.changes < apart || allKnown && g.changes > apart {
				t.Errorf("%v: Changes of %v = %d, apart are %d", s, g.tree, g.changes, apart)
			}
			if allKnown {
				known++
			} else if g.changes > apart {
				more++
			}
		}
	}
	if more < 100 || known < 100 {
		t.Errorf("%d trees have more changes, of %d all readings are known", more, known)
	}
}

// harder are the stem with one more place, with one more reading known, and with one more place of the Kind SmOne, as far as there can be.
func harder(r *rand.Rand, s api.SmStem) []api.SmStem {
	var list []api.SmStem
	if len(s.Places) < api.MaxSmPlaces {
		d := cloned(s)
		d.Places = append(d.Places, place("further", r.Intn(2)))
		for i, x := range d.Editions {
			d.Editions[i].Readings = append(x.Readings, r.Intn(api.MaxSmReadings+1))
		}
		list = append(list, d)
	}
	for place, p := range s.Places {
		if p.Kind == api.SmFree {
			d := cloned(s)
			d.Places[place].Kind = api.SmOne
			list = append(list, d)
		}
		if k := r.Intn(len(s.Editions)); s.Editions[k].Readings[place] == 0 {
			list = append(list, reading(s, k, place, 1+r.Intn(api.MaxSmReadings)))
		}
	}
	return list
}

// P7.12: with one more place, one more reading, or another Kind SmOne no tree has fewer changes.
func TestHarder(t *testing.T) {
	r := rand.New(rand.NewSource(712))
	more, not := 0, 0
	for i, s := range stems() {
		for _, d := range harder(r, s) {
			for _, g := range answers(t)[i].trees {
				n, possible := changesOf(t, d, g.tree)
				if possible && (g.possible != api.OK || n < g.changes) {
					t.Errorf("%v, and harder %v: Changes of %v = %d, were %d, %d", s, d, g.tree, n, g.changes, g.possible)
				}
				if g.possible == api.OK && !possible {
					not++
				} else if n > g.changes {
					more++
				}
			}
		}
	}
	if more < 500 || not < 500 {
		t.Errorf("%d trees have more changes, %d are not possible", more, not)
	}
}

// less is a stem without an edition, and a tree of it without this one.
func less(s api.SmStem, tree []int, edition int) (api.SmStem, []int) {
	s, tree = cloned(s), slices.Clone(tree)
	s.Editions, tree = slices.Delete(s.Editions, edition, edition+1), slices.Delete(tree, edition, edition+1)
	for i, source := range tree {
		if source > edition {
			tree[i]--
		}
	}
	return s, tree
}

// P7.12: without an edition that no other one was set from a tree has no more changes.
func TestLess(t *testing.T) {
	fewer := 0
	for i, s := range stems() {
		for _, g := range answers(t)[i].trees {
			for edition := range g.tree {
				if g.possible != api.OK || len(g.tree) == 1 || slices.Contains(g.tree, edition) {
					continue
				}
				d, tree := less(s, g.tree, edition)
				n, possible := changesOf(t, d, tree)
				if !possible || n > g.changes {
					t.Errorf("%v: Changes of %v = %d, without %d %d, %v", s, g.tree, g.changes, edition, n, possible)
				}
				if n < g.changes {
					fewer++
				}
			}
		}
	}
	if fewer < 500 {
		t.Errorf("just %d trees have fewer changes", fewer)
	}
}

// isClean reports whether some tree that years fit is clean without some places, by Clean.
func isClean(s api.SmStem, some []int) bool {
	if len(some) == len(s.Places) {
		_, e := stem.Clean(s)
		return e == api.OK
	}
	list, e := stem.Clean(without(s, some))
	return e == api.OK && len(list) == 0
}

// P7.13: some tree that years fit is clean without the places of Clean; without any fewer none is, and without as many before them none is.
func TestClean(t *testing.T) {
	tried := 0
	for i, s := range stems() {
		x := answers(t)[i]
		for _, some := range subsets(len(s.Places)) {
			if slices.Equal(some, x.clean) && x.dated == api.OK {
				if !isClean(s, some) {
					t.Errorf("%v: Clean = %v", s, x.clean)
				}
				break
			}
			tried++
			if isClean(s, some) {
				t.Errorf("%v: Clean = %v, %d, but without %v it is clean", s, x.clean, x.dated, some)
			}
		}
	}
	if tried < 500 {
		t.Errorf("just %d lists were tried", tried)
	}
}

// otherwise is a stem of which the readings of some places of the Kind SmFree are numbered otherwise, and how: by place and reading.
func otherwise(r *rand.Rand, s api.SmStem) (api.SmStem, [][]int) {
	s = cloned(s)
	var become [][]int
	for place, p := range s.Places {
		order := []int{1, 2, 3}
		if p.Kind == api.SmFree {
			r.Shuffle(3, func(i, k int) { order[i], order[k] = order[k], order[i] })
		}
		become = append(become, append([]int{0}, order...))
		for _, x := range s.Editions {
			x.Readings[place] = become[place][x.Readings[place]]
		}
	}
	return s, become
}

// P7.14: if the readings of places of the Kind SmFree are numbered otherwise, all is the same.
func TestNumberedOtherwise(t *testing.T) {
	r := rand.New(rand.NewSource(714))
	other := 0
	for i, s := range stems() {
		d, become := otherwise(r, s)
		x, y := answers(t)[i], tell(t, d, samples()[i])
		if !same(s, d) {
			other++
		}
		for k, g := range x.trees {
			var readings [][][]int
			for edition, lists := range g.readings {
				readings = append(readings, nil)
				for place, list := range lists {
					var otherwise []int
					for _, n := range list {
						otherwise = append(otherwise, become[place][n])
					}
					slices.Sort(otherwise)
					readings[edition] = append(readings[edition], otherwise)
				}
			}
			if !slices.EqualFunc(y.trees[k].readings, readings, deeply) {
				t.Errorf("%v, and numbered otherwise %v: Reading of %v = %v, was %v", s, d, g.tree, y.trees[k].readings, g.readings)
			}
			y.trees[k].readings = g.readings
		}
		if differ(x, y) != "" {
			t.Errorf("%v, and numbered otherwise %v: %s: %v, was %v", s, d, differ(x, y), y, x)
		}
	}
	if other < 200 {
		t.Errorf("just %d stems were others", other)
	}
}

// P7.14: in any other order of editions the best trees have as many changes, and there are as many.
func TestOtherOrder(t *testing.T) {
	r := rand.New(rand.NewSource(7142))
	for i, s := range stems() {
		x := answers(t)[i]
		d := cloned(s)
		order := r.Perm(len(s.Editions))
		for k, edition := range order {
			d.Editions[k] = s.Editions[edition]
		}
		_, changes, many, e := stem.Best(d)
		if changes != x.changes || many != x.many || e != x.down {
			t.Errorf("%v in the order %v: Best: %d changes, %d, %d, were %d, %d, %d", s, order, changes, many, e, x.changes, x.many, x.down)
		}
		for k, edition := range order {
			for l, other := range order {
				if from, _ := stem.From(d, k, l); from != x.from[edition][other] {
					t.Errorf("%v in the order %v: From of %d, %d = %d, was %d", s, order, k, l, from, x.from[edition][other])
				}
			}
		}
	}
}

// P7.15: each year of Years is one of Year, and an edition's first year is later than that of its source, and so is its last one.
func TestYearsInOrder(t *testing.T) {
	tried := 0
	for i, s := range stems() {
		for _, g := range answers(t)[i].trees {
			for edition, y := range g.years {
				own, source := s.Editions[edition].Year, g.tree[edition]
				if y.Lo > y.Hi || y.Lo < own.Lo || y.Hi > own.Hi || source != api.SmNone && (y.Lo <= g.years[source].Lo || y.Hi <= g.years[source].Hi) {
					t.Errorf("%v: Years of %v = %v", s, g.tree, g.years)
				}
				tried++
			}
		}
	}
	if tried < 5000 {
		t.Errorf("just %d editions", tried)
	}
}

// savedBy are the changes of an edition, by Apart, that another one saves.
func savedBy(s api.SmStem, x told, tree []int, edition, other int) []int {
	var list []int
	for _, place := range x.apart[edition][tree[edition]] {
		if s.Editions[other].Readings[place] == s.Editions[edition].Readings[place] {
			list = append(list, place)
		}
	}
	return list
}

// P7.16: what the second edition saves the edition does not share with its source, and no other one that can have been the second one saves more.
func TestSecond(t *testing.T) {
	saved, not := 0, 0
	for i, s := range stems() {
		x := answers(t)[i]
		for _, g := range x.trees {
			for edition, source := range g.tree {
				if source == api.SmNone || g.dated != api.OK {
					continue
				}
				most := 0
				for other := range g.tree {
					many := len(savedBy(s, x, g.tree, edition, other))
					if other == source && many > 0 {
						t.Errorf("%v: Apart of %d, %d is shared", s, edition, source)
					}
					if other == edition || slices.Contains(from(g.tree, edition), other) || g.years[other].Lo >= g.years[edition].Hi {
						not += many
						continue
					}
					most = max(most, many)
				}
				if g.saved[edition] != most || (g.second[edition] == api.OK) != (most > 0) {
					t.Errorf("%v: Second of %v, %d saves %d, not %d", s, g.tree, edition, g.saved[edition], most)
				}
				if most > 0 {
					saved++
					if n := len(savedBy(s, x, g.tree, edition, g.other[edition])); n != most {
						t.Errorf("%v: Second of %v, %d = %d, which saves %d, not %d", s, g.tree, edition, g.other[edition], n, most)
					}
				}
			}
		}
	}
	if saved < 500 || not < 500 {
		t.Errorf("%d second editions; %d changes others would have saved", saved, not)
	}
}
