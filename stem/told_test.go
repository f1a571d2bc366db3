package stem_test

import (
	"slices"
	"testing"

	"duodecimo/api"
	"duodecimo/stem"
)

// P7.2 to P7.7: all that is told of each stem, and of its trees, is so by trying all trees, fillings and years.
func TestTold(t *testing.T) {
	for i, s := range stems() {
		if x, y := answers(t)[i], models()[i]; differ(x, y) != "" {
			t.Errorf("%v: %s: %v, not %v", s, differ(x, y), x, y)
		}
	}
}

// Among the stems are enough of each kind: for which no tree is possible, or no years fit any, with one best tree and with many, and the largest ones.
func TestStems(t *testing.T) {
	kinds := map[string]int{}
	count := func(kind string, isSo bool) {
		if isSo {
			kinds[kind]++
		}
	}
	for i, s := range stems() {
		x := models()[i]
		n, possible := len(s.Editions), x.down == api.OK
		count("no tree is possible", !possible)
		count("no filling is possible", !possible && x.dated == api.OK)
		count("no years fit", x.dated != api.OK)
		count("one best tree", x.many == 1 && n > 2)
		count("some best trees", x.many > 1 && x.many < 100)
		count("the first tree is not the best one", possible && !slices.Equal(x.best, allTrees()[n][0]))
		count("no changes", possible && x.changes == 0)
		count("many changes", x.changes > 8)
		count("one can be the first", len(x.first) == 1 && n > 2)
		count("several can be the first", len(x.first) > 1)
		count("clean", x.dated == api.OK && len(x.clean) == 0)
		count("one place is not clean", len(x.clean) == 1)
		count("several places are not clean", len(x.clean) > 1)
		count("largest", n == 5 && len(s.Places) == 6)
		count("largest, several trees", n == 5 && len(s.Places) == 6 && x.many > 1)
		for k := range n {
			count("sure", slices.Contains(x.from[k], api.SmSure))
			count("may", slices.Contains(x.from[k], api.SmMay))
		}
		for _, g := range x.trees {
			count("a tree is not possible", g.possible != api.OK && g.dated == api.OK)
			for k := range n {
				count("saved", g.saved[k] > 0)
				count("much is saved", g.saved[k] > 1)
				count("nothing is saved", g.second[k] == api.ErrZero)
				count("years are not known", g.dated == api.OK && g.years[k].Lo < g.years[k].Hi)
				count("years are known better", g.dated == api.OK && g.years[k] != s.Editions[k].Year)
				for place, list := range g.readings[k] {
					lost := g.possible == api.OK && s.Editions[k].Readings[place] == 0
					count("one reading", lost && len(list) == 1)
					count("two readings", lost && len(list) == 2)
					count("all readings", lost && len(list) == 3)
				}
			}
		}
	}
	for _, kind := range []string{
		"no tree is possible", "no filling is possible", "no years fit", "one best tree", "some best trees", "the first tree is not the best one",
		"no changes", "many changes", "one can be the first", "several can be the first", "clean", "one place is not clean", "several places are not clean",
		"largest", "largest, several trees", "sure", "may", "a tree is not possible", "saved", "much is saved", "nothing is saved",
		"years are not known", "years are known better", "one reading", "two readings", "all readings",
	} {
		if kinds[kind] < 10 {
			t.Errorf("%s: %d stems", kind, kinds[kind])
		}
	}
	t.Log(kinds)
}

// The chapter's examples, one by one.
func TestExamples(t *testing.T) {
	s := example()
	lists := func(what string, got []int, e api.Errno, want ...int) {
		t.Helper()
		if !slices.Equal(got, want) || e != api.OK {
			t.Errorf("%s = %v, %d", what, got, e)
		}
	}
	list, e := stem.Apart(s, q1, f1)
	lists("Apart of q1 and f1", list, e, 0, 1)
	list, e = stem.Apart(s, q1, q3)
	lists("Apart of q1 and q3", list, e, 2)
	for _, c := range []struct {
		tree    []int
		changes int
		e       api.Errno
	}{{[]int{-1, 0, 1, 0}, 3, api.OK}, {[]int{-1, 0, 0, 0}, 4, api.OK}, {[]int{-1, 0, 1, 2}, 0, api.ErrDown}, {[]int{1, -1, 1, 1}, 0, api.ErrDown}} {
		if n, e := stem.Changes(s, c.tree); n != c.changes || e != c.e {
			t.Errorf("Changes of %v = %d, %d", c.tree, n, e)
		}
	}
	years, e := stem.Years(s, []int{-1, 0, 1, 1})
	if !slices.Equal(years, []api.Span{span(1600, 1600), span(1605, 1610), span(1623, 1623), span(1608, 1630)}) || e != api.OK {
		t.Errorf("Years = %v, %d", years, e)
	}
	best, changes, many, e := stem.Best(s)
	lists("Best", best, e, -1, 0, 1, 0)
	if changes != 3 || many != 2 {
		t.Errorf("Best = %d changes, %d trees", changes, many)
	}
	list, e = stem.First(s)
	lists("First", list, e, q1)
	for _, c := range []struct{ a, b, want int }{{q2, f1, api.SmSure}, {q1, q3, api.SmMay}, {f1, q3, api.SmNever}} {
		if n, e := stem.From(s, c.a, c.b); n != c.want || e != api.OK {
			t.Errorf("From of %d, %d = %d, %d", c.a, c.b, n, e)
		}
	}
	list, e = stem.Reading(s, []int{-1, 0, 1, 0}, q3, 0)
	lists("Reading", list, e, 1)
	list, e = stem.Reading(s, []int{-1, 0, 1, 1}, q3, 0)
	lists("Reading", list, e, 2)
	list, e = stem.Clean(s)
	lists("Clean", list, e)
	if other, saved, e := stem.Second(s, []int{-1, 0, 0, 0}, f1); other != q2 || saved != 1 || e != api.OK {
		t.Errorf("Second = %d, %d, %d", other, saved, e)
	}
	if other, saved, e := stem.Second(s, []int{-1, 0, 1, 0}, f1); other != 0 || saved != 0 || e != api.ErrZero {
		t.Errorf("Second = %d, %d, %d", other, saved, e)
	}
}

// P7.3 and P7.5: the changes of a tree are those of the filling of all places at once that has the fewest, and the readings are those of all such fillings.
func TestFillings(t *testing.T) {
	tried := 0
	for i, s := range stems() {
		all := [][]filled{{}}
		for place := range s.Places {
			var longer [][]filled
			for _, list := range all {
				for _, f := range fillingsOf(s, place) {
					longer = append(longer, append(slices.Clone(list), f))
				}
			}
			if all = longer; len(all) > 800 {
				break
			}
		}
		if len(all) == 1 || len(all) > 800 {
			continue
		}
		for _, g := range answers(t)[i].trees {
			if g.dated != api.OK {
				continue
			}
			tried++
			changes, best := fewestAtOnce(s, g.tree, all)
			if (g.possible == api.OK) != (len(best) > 0) || g.changes != changes {
				t.Errorf("%v: Changes of %v = %d, %d, not %d", s, g.tree, g.changes, g.possible, changes)
			}
			for edition, lists := range g.readings {
				for place, list := range lists {
					for n := 1; n <= api.MaxSmReadings; n++ {
						some := slices.ContainsFunc(best, func(l []filled) bool { return l[place][edition] == n })
						if slices.Contains(list, n) != some {
							t.Errorf("%v: Reading of %v, %d, %d = %v", s, g.tree, edition, place, list)
						}
					}
				}
			}
		}
	}
	if tried < 300 {
		t.Errorf("just %d trees were tried", tried)
	}
}

// fewestAtOnce are the fewest changes of all fillings, each of which fills all places, and those with so few.
func fewestAtOnce(s api.SmStem, tree []int, all [][]filled) (int, [][]filled) {
	fewest := 0
	var best [][]filled
fillings:
	for _, list := range all {
		many := 0
		for place, f := range list {
			n, can := changed(s.Places[place].Kind, tree, f)
			if !can {
				continue fillings
			}
			many += n
		}
		if len(best) == 0 || many < fewest {
			best, fewest = nil, many
		}
		if many == fewest {
			best = append(best, list)
		}
	}
	return fewest, best
}

// P7.2: what is not known is not apart, and an edition is not apart from itself.
func TestApart(t *testing.T) {
	s := stemOf([]int{0, 1, 0, 1, 0, 1}, []int{1, 0, 3, 3, 0, 2}, []int{2, 2, 3, 1, 0, 0})
	for _, c := range []struct {
		a, b int
		want []int
	}{{0, 1, []int{0, 3}}, {1, 0, []int{0, 3}}, {0, 0, nil}, {1, 1, nil}} {
		if list, e := stem.Apart(s, c.a, c.b); !slices.Equal(list, c.want) || e != api.OK {
			t.Errorf("Apart of %d, %d = %v, %d", c.a, c.b, list, e)
		}
	}
}

// P7.3: an edition is at least a year later than its source, up and down the whole tree; a source of the same year is none.
func TestYears(t *testing.T) {
	wide := span(1600, 1610)
	for i, c := range []struct {
		years []api.Span
		tree  []int
		want  []api.Span
	}{
		{[]api.Span{wide}, []int{-1}, []api.Span{wide}},
		{[]api.Span{wide, wide}, []int{-1, 0}, []api.Span{span(1600, 1609), span(1601, 1610)}},
		{[]api.Span{wide, wide}, []int{1, -1}, []api.Span{span(1601, 1610), span(1600, 1609)}},
		{[]api.Span{span(1600, 1600), span(1600, 1600)}, []int{-1, 0}, nil},
		{[]api.Span{span(1600, 1600), span(1601, 1601)}, []int{-1, 0}, []api.Span{span(1600, 1600), span(1601, 1601)}},
		{[]api.Span{wide, wide, wide, wide, wide}, []int{1, 2, 3, 4, -1}, []api.Span{span(1604, 1610), span(1603, 1609), span(1602, 1608), span(1601, 1607), span(1600, 1606)}},
		{[]api.Span{wide, wide, wide, wide, wide}, []int{-1, 0, 1, 2, 3}, []api.Span{span(1600, 1606), span(1601, 1607), span(1602, 1608), span(1603, 1609), span(1604, 1610)}},
		{[]api.Span{wide, span(1605, 1605), wide, wide, wide}, []int{-1, 0, 1, 1, 0}, []api.Span{span(1600, 1604), span(1605, 1605), span(1606, 1610), span(1606, 1610), span(1601, 1610)}},
		{[]api.Span{span(1450, 1850), span(1450, 1450)}, []int{1, -1}, []api.Span{span(1451, 1850), span(1450, 1450)}},
		{[]api.Span{span(1450, 1850), span(1450, 1450)}, []int{-1, 0}, nil},
		{[]api.Span{span(1600, 1601), span(1600, 1601), span(1600, 1601)}, []int{-1, 0, 0}, []api.Span{span(1600, 1600), span(1601, 1601), span(1601, 1601)}},
		{[]api.Span{span(1600, 1601), span(1600, 1601), span(1600, 1601)}, []int{-1, 0, 1}, nil},
	} {
		s := dated(stemOf([]int{0}, slices.Repeat([][]int{{0}}, len(c.years))...), c.years...)
		years, e := stem.Years(s, c.tree)
		if !slices.Equal(years, c.want) || (e == api.OK) != (c.want != nil) {
			t.Errorf("%d: Years = %v, %d", i, years, e)
		}
		if n, e := stem.Changes(s, c.tree); n != 0 || (e == api.OK) != (c.want != nil) {
			t.Errorf("%d: Changes = %d, %d", i, n, e)
		}
	}
}

// P7.4: a single edition is the first one, and was not set from itself.
func TestSingle(t *testing.T) {
	s := stemOf([]int{api.SmOne}, []int{2})
	x := tell(t, s, [][]int{{-1}})
	if !slices.Equal(x.best, []int{-1}) || x.changes != 0 || x.many != 1 || !slices.Equal(x.first, []int{0}) || x.from[0][0] != api.SmNever || len(x.clean) > 0 {
		t.Errorf("%v", x)
	}
	if g := x.trees[0]; g.changes != 0 || !deeply(g.readings[0], [][]int{{2}}) || g.second[0] != api.ErrArg {
		t.Errorf("%v", g)
	}
}

// P7.5: between two readings that are known an edition has one of them, and after the last one that is known the same.
func TestReading(t *testing.T) {
	for i, c := range []struct {
		kind int
		last int
		want []int
	}{
		{api.SmFree, 1, []int{1}}, {api.SmFree, 2, []int{1, 2}}, {api.SmFree, 3, []int{1, 3}}, {api.SmFree, 0, []int{1}},
		{api.SmOne, 1, []int{1}}, {api.SmOne, 2, []int{1, 2}}, {api.SmOne, 3, []int{1, 3}}, {api.SmOne, 0, []int{1}},
	} {
		s := stemOf([]int{c.kind}, []int{1}, []int{0}, []int{c.last})
		if list, e := stem.Reading(s, []int{-1, 0, 1}, 1, 0); !slices.Equal(list, c.want) || e != api.OK {
			t.Errorf("%d: Reading = %v, %d", i, list, e)
		}
	}
	// Of a first edition that is lost comes what comes back at no place of the Kind SmOne: just the least reading can have been there.
	for kind, want := range [][]int{{1, 2, 3}, {1}} {
		s := stemOf([]int{kind}, []int{0}, []int{1}, []int{2}, []int{3})
		if list, e := stem.Reading(s, []int{-1, 0, 0, 0}, 0, 0); !slices.Equal(list, want) || e != api.OK {
			t.Errorf("Kind %d: Reading = %v, %d", kind, list, e)
		}
		if n, e := stem.Changes(s, []int{-1, 0, 0, 0}); n != 2 || e != api.OK {
			t.Errorf("Kind %d: Changes = %d, %d", kind, n, e)
		}
	}
}

// P7.6: a place at which no reading is known is clean; where it is left out, no filling needs to be possible; and it is the first list that counts, not that of the first tree.
func TestCleanFirst(t *testing.T) {
	year := func(n int) api.Span { return span(1600+n, 1600+n) }
	chain := []api.Span{year(0), year(1), year(2), year(3)}
	come := stemOf([]int{0, 0, 0}, []int{0, 1, 1}, []int{0, 2, 1}, []int{0, 2, 2}, []int{0, 1, 2}) // the readings of the second place come back, if the third one is clean
	for i, c := range []struct {
		s    api.SmStem
		want []int
	}{
		{crossed(), []int{0}},
		{dated(crossed(), year(0), year(1)), []int{2}},
		{dated(crossed(), year(1), year(0)), []int{0}},
		{dated(come, chain...), []int{1}},
		{without(dated(come, chain...), []int{2}), nil},
		{without(dated(come, chain...), []int{0, 1}), nil},
		{stemOf([]int{0, 1}, []int{0, 0}, []int{0, 0}), nil},
		{stemOf([]int{0}, []int{1}, []int{2}, []int{3}, []int{1}, []int{2}), nil},
		{dated(stemOf([]int{0}, []int{1}, []int{2}, []int{1}), year(0), year(1), year(2)), nil},
		{dated(stemOf([]int{1}, []int{2}, []int{1}, []int{2}), year(0), year(1), year(2)), []int{0}},
		{dated(stemOf([]int{1}, []int{2}, []int{3}, []int{2}), year(0), year(1), year(2)), nil},
	} {
		if list, e := stem.Clean(c.s); !slices.Equal(list, c.want) || e != api.OK {
			t.Errorf("%d: Clean = %v, %d", i, list, e)
		}
	}
}

// P7.7: who can have been the second one beside the source.
func TestSecondEnds(t *testing.T) {
	free := []int{0, 0, 0}
	old, new := []int{1, 1, 1}, []int{2, 2, 2}
	one, two := []int{2, 0, 1}, []int{1, 2, 2}
	year := func(lo, hi int) api.Span { return span(1600+lo, 1600+hi) }
	any := year(0, 50)
	for i, c := range []struct {
		readings     [][]int
		years        []api.Span
		tree         []int
		edition      int
		other, saved int
		e            api.Errno
	}{
		{[][]int{old, new, one}, []api.Span{any, any, any}, []int{-1, 0, 0}, 1, 2, 1, api.OK},
		{[][]int{old, new, one, two}, []api.Span{any, any, any, any}, []int{-1, 0, 0, 0}, 1, 3, 2, api.OK},
		{[][]int{old, new, two, one, two}, []api.Span{any, any, any, any, any}, []int{-1, 0, 0, 0, 0}, 1, 2, 2, api.OK},              // of two the first one
		{[][]int{old, new, two, one}, []api.Span{any, any, any, any}, []int{-1, 0, 1, 0}, 1, 3, 1, api.OK},                           // not what was set from it
		{[][]int{old, new, two, two}, []api.Span{any, any, any, any}, []int{-1, 0, 1, 2}, 1, 0, 0, api.ErrZero},                      // nor from one that was
		{[][]int{new, old, new}, []api.Span{any, any, any}, []int{-1, 0, 1}, 2, 0, 3, api.OK},                                        // the source of its source
		{[][]int{old, new, new}, []api.Span{any, year(1, 5), year(5, 9)}, []int{-1, 0, 0}, 1, 0, 0, api.ErrZero},                     // of the same year at best
		{[][]int{old, new, new}, []api.Span{any, year(1, 6), year(5, 9)}, []int{-1, 0, 0}, 1, 2, 3, api.OK},                          // a year earlier
		{[][]int{old, new, new}, []api.Span{year(5, 5), year(1, 6), year(1, 9)}, []int{-1, 0, 0}, 1, 0, 0, api.ErrZero},              // later than the source of both
		{[][]int{old, new, new, old}, []api.Span{any, year(1, 6), year(5, 9), year(2, 6)}, []int{-1, 0, 0, 1}, 1, 0, 0, api.ErrZero}, // earlier than what was set from it
		{[][]int{old, new, new, old}, []api.Span{any, year(1, 6), year(5, 9), year(2, 7)}, []int{-1, 0, 0, 1}, 1, 2, 3, api.OK},
		{[][]int{old, {0, 0, 2}, new}, []api.Span{any, any, any}, []int{-1, 0, 0}, 1, 2, 1, api.OK},              // its own reading is known
		{[][]int{{0, 1, 0}, new, new}, []api.Span{any, any, any}, []int{-1, 0, 0}, 1, 2, 1, api.OK},              // that of its source, too
		{[][]int{old, new, {0, 0, 0}}, []api.Span{any, any, any}, []int{-1, 0, 0}, 1, 0, 0, api.ErrZero},         // that of the other one, too
		{[][]int{old, new, {3, 3, 3}}, []api.Span{any, any, any}, []int{-1, 0, 0}, 1, 0, 0, api.ErrZero},         // it has another one
		{[][]int{old, old, old}, []api.Span{any, any, any}, []int{-1, 0, 0}, 1, 0, 0, api.ErrZero},               // there is nothing to save
		{[][]int{old, new, one}, []api.Span{any, any, any}, []int{-1, 0, 0}, 0, 0, 0, api.ErrArg},                // the first one had no source
		{[][]int{old, new, new}, []api.Span{year(9, 9), year(1, 9), any}, []int{-1, 0, 0}, 0, 0, 0, api.ErrDown}, // no years fit
		{[][]int{old, new}, []api.Span{any, any}, []int{-1, 0}, 1, 0, 0, api.ErrZero},
	} {
		s := dated(stemOf(free, c.readings...), c.years...)
		if other, saved, e := stem.Second(s, c.tree, c.edition); other != c.other || saved != c.saved || e != c.e {
			t.Errorf("%d: Second = %d, %d, %d", i, other, saved, e)
		}
	}
	// The filling need not be possible.
	s := stemOf([]int{api.SmOne, 0}, []int{2, 1}, []int{1, 2}, []int{1, 2})
	if other, saved, e := stem.Second(s, []int{-1, 0, 0}, 2); other != 1 || saved != 2 || e != api.OK {
		t.Errorf("Second = %d, %d, %d", other, saved, e)
	}
}
