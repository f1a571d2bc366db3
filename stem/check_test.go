package stem_test

import (
	"fmt"
	"math"
	"slices"
	"strings"
	"testing"

	"duodecimo/api"
	"duodecimo/stem"
)

// but is the example after a change.
func but(change func(*api.SmStem)) api.SmStem {
	s := example()
	change(&s)
	return s
}

// places is the example with other places, and as many readings of each edition.
func places(list ...api.SmPlace) api.SmStem {
	return but(func(s *api.SmStem) {
		s.Places = list
		for i := range s.Editions {
			s.Editions[i].Readings = make([]int, len(list))
		}
	})
}

// editions is the example with other editions.
func editions(list ...api.SmEdition) api.SmStem {
	return but(func(s *api.SmStem) { s.Editions = list })
}

// checked is a stem, and what Check returns.
type checked struct {
	s        api.SmStem
	part, at int
	e        api.Errno
}

// checkedStems are stems with and without errors.
func checkedStems() []checked {
	long := strings.Repeat("a", api.MaxName)
	p, q := place("p", api.SmFree), place("q", api.SmOne)
	x, y := edition("x", 1600, 1600, 1, 1, 1), edition("y", 1450, 1850, 0, 0, 3)
	bad := edition("", 0, -1, 9)
	list := []checked{
		{example(), 0, 0, api.OK},
		{crossed(), 0, 0, api.OK},
		{together(), 0, 0, api.OK},
		{api.SmStem{}, 1, 0, api.ErrLong},
		{api.SmStem{Places: []api.SmPlace{p}}, 2, 0, api.ErrLong},
		{api.SmStem{Places: []api.SmPlace{p}, Editions: []api.SmEdition{edition("p", 1600, 1600, 0)}}, 0, 0, api.OK},
		{api.SmStem{Editions: example().Editions}, 1, 0, api.ErrLong},
		{places(), 1, 0, api.ErrLong},
		{places(slices.Repeat([]api.SmPlace{{Kind: 7}}, 7)...), 1, 0, api.ErrLong},
		{places(p, q, place("r", 1), place("s", 0), place("t", 1), place("u", 0)), 0, 0, api.OK},
		{places(p, q, place("r", 1), place("s", 0), place("t", 1), place("u", 0), place("v", 0)), 1, 0, api.ErrLong},
		{places(p), 0, 0, api.OK},
		{places(p, place("", 7), place("p", 7)), 1, 1, api.ErrForm},
		{places(p, place("Q", 0)), 1, 1, api.ErrForm},
		{places(p, place(long, 0), place(long+"a", 0)), 1, 2, api.ErrForm},
		{places(p, place("p", 7), place("", 0)), 1, 1, api.ErrTwice},
		{places(p, q, place("p", 0)), 1, 2, api.ErrTwice},
		{places(p, place("q", 2), place("", 0)), 1, 1, api.ErrRange},
		{places(place("p", -1), place("p", 0)), 1, 0, api.ErrRange},
		{but(func(s *api.SmStem) { s.Places[2].Name, s.Editions = "a", nil }), 1, 2, api.ErrTwice},
		{editions(), 2, 0, api.ErrLong},
		{editions(bad, bad, bad, bad, bad, bad), 2, 0, api.ErrLong},
		{editions(x), 0, 0, api.OK},
		{editions(x, y, edition("z", 1, 1)), 2, 2, api.ErrRange},
		{editions(x, y, edition("a", 1700, 1800, 3, 2, 1), edition("b", 1500, 1500, 1, 1, 0), edition("c", 1600, 1600, 0, 0, 0)), 0, 0, api.OK},
		{editions(x, bad, bad), 2, 1, api.ErrForm},
		{editions(x, edition("y2!", 1600, 1600, 1, 1, 1), bad), 2, 1, api.ErrForm},
		{editions(x, y, edition("x", 0, -1, 9)), 2, 2, api.ErrTwice},
		{editions(x, x, bad), 2, 1, api.ErrTwice},
		{editions(x, edition("y", 1700, 1449, 9), bad), 2, 1, api.ErrRange},
		{editions(edition("x", 1851, 1850, 1, 1, 1)), 2, 0, api.ErrRange},
		{editions(x, edition("y", 1700, 1699, 9), bad), 2, 1, api.ErrArg},
		{editions(edition("x", 1850, 1450, 1, 1, 1)), 2, 0, api.ErrArg},
		{editions(x, edition("y", 1700, 1700, 9, 9), bad), 2, 1, api.ErrLong},
		{editions(edition("x", 1700, 1700, 1, 1, 1, 1)), 2, 0, api.ErrLong},
		{editions(edition("x", 1700, 1700)), 2, 0, api.ErrLong},
		{editions(x, edition("y", 1700, 1700, 1, 1, 4), bad), 2, 1, api.ErrRange},
		{editions(x, edition("y", 1700, 1700, -1, 1, 1)), 2, 1, api.ErrRange},
	}
	within := func(s api.SmStem, n, lo, hi, part, at int) {
		if n >= lo && n <= hi {
			list = append(list, checked{s, 0, 0, api.OK})
		} else {
			list = append(list, checked{s, part, at, api.ErrRange})
		}
	}
	for _, n := range numbers(0, 1) {
		within(places(p, place("q", n), place("r", n)), n, 0, 1, 1, 1)
	}
	for _, n := range numbers(1450, 1850) {
		within(editions(x, edition("n", n, 1850, 1, 1, 1)), n, 1450, 1850, 2, 1)
		within(editions(edition("n", 1450, n, 1, 1, 1), x), n, 1450, 1850, 2, 0)
	}
	for _, n := range numbers(0, 3) {
		within(editions(x, edition("n", 1600, 1600, 0, n, 0)), n, 0, 3, 2, 1)
	}
	return list
}

// errorsOf are the errors of all functions but Check, each called with errors of its own as well; none may return anything else with an error.
func errorsOf(s api.SmStem) map[string]api.Errno {
	apart, e1 := stem.Apart(s, -1, -1)
	changes, e2 := stem.Changes(s, nil)
	years, e3 := stem.Years(s, []int{7})
	best, n, many, e4 := stem.Best(s)
	first, e5 := stem.First(s)
	from, e6 := stem.From(s, 99, 0)
	list, e7 := stem.Reading(s, []int{-1}, 9, 9)
	clean, e8 := stem.Clean(s)
	other, saved, e9 := stem.Second(s, nil, 9)
	errors := map[string]api.Errno{"Apart": e1, "Changes": e2, "Years": e3, "Best": e4, "First": e5, "From": e6, "Reading": e7, "Clean": e8, "Second": e9}
	if len(apart)+len(years)+len(best)+len(first)+len(list)+len(clean) > 0 || changes != 0 || n != 0 || many != 0 || from != 0 || other != 0 || saved != 0 {
		errors["a result with an error"] = -1
	}
	return errors
}

// P7.1: the errors of a stem in their order, and those before it of all other functions.
func TestCheck(t *testing.T) {
	for i, c := range checkedStems() {
		part, at, e := stem.Check(c.s)
		if part != c.part || at != c.at || e != c.e {
			t.Errorf("%d: Check(%v) = %d, %d, %d", i, c.s, part, at, e)
		}
		if c.e == api.OK {
			continue
		}
		for name, e := range errorsOf(c.s) {
			if e != c.e {
				t.Errorf("%d: %s: %d", i, name, e)
			}
		}
	}
}

// P7.1: all stems that the other tests are about have no error.
func TestCheckStems(t *testing.T) {
	for _, s := range stems() {
		if part, at, e := stem.Check(s); part != 0 || at != 0 || e != api.OK {
			t.Errorf("Check(%v) = %d, %d, %d", s, part, at, e)
		}
	}
}

// errorsOfTree are the errors of all functions with a tree, with an edition and a place; none may return anything else with an error.
func errorsOfTree(t *testing.T, s api.SmStem, tree []int, edition, place int) (changes, years, reading, second api.Errno) {
	t.Helper()
	n, changes := stem.Changes(s, tree)
	spans, years := stem.Years(s, tree)
	list, reading := stem.Reading(s, tree, edition, place)
	other, saved, second := stem.Second(s, tree, edition)
	if changes != api.OK && n != 0 || (years == api.OK) != (len(spans) > 0) || (reading == api.OK) != (len(list) > 0) || second != api.OK && (other != 0 || saved != 0) {
		t.Errorf("%v of %v, with %d and %d: %d, %d; %v, %d; %v, %d; %d, %d, %d", tree, s, edition, place, n, changes, spans, years, list, reading, other, saved, second)
	}
	return changes, years, reading, second
}

// The errors of a tree, in their order, before those of an edition or a place.
func TestTreeErrors(t *testing.T) {
	for _, c := range []struct {
		tree []int
		e    api.Errno
	}{
		{nil, api.ErrLong}, {[]int{-1, 0, 0}, api.ErrLong}, {[]int{-1, 0, 0, 0, 0}, api.ErrLong}, {[]int{-9, 9, 9}, api.ErrLong},
		{[]int{-1, 0, 0, 4}, api.ErrRange}, {[]int{-2, 0, 0, 0}, api.ErrRange}, {[]int{0, 0, math.MaxInt, 0}, api.ErrRange}, {[]int{-1, -1, math.MinInt, -1}, api.ErrRange}, {[]int{0, 1, 2, 4}, api.ErrRange},
		{[]int{-1, -1, 0, 0}, api.ErrArg}, {[]int{-1, -1, -1, -1}, api.ErrArg}, {[]int{0, 0, 0, 0}, api.ErrArg}, {[]int{1, 2, 3, 0}, api.ErrArg},
		{[]int{-1, 1, 0, 0}, api.ErrArg}, {[]int{-1, 2, 1, 0}, api.ErrArg}, {[]int{-1, 2, 3, 1}, api.ErrArg}, {[]int{1, 0, -1, 2}, api.ErrArg}, {[]int{1, 0, 0, -1}, api.ErrArg}, {[]int{3, 0, 1, 2}, api.ErrArg},
	} {
		for _, s := range []api.SmStem{example(), together()} {
			for _, edition := range []int{0, 9} {
				changes, years, reading, second := errorsOfTree(t, s, c.tree, edition, edition)
				if changes != c.e || years != c.e || reading != c.e || second != c.e {
					t.Errorf("%v: %d, %d, %d, %d, not %d", c.tree, changes, years, reading, second, c.e)
				}
			}
		}
	}
}

// Of all lists of numbers just the trees are trees.
func TestAllTrees(t *testing.T) {
	trees := 0
	for n := 1; n <= api.MaxSmEditions; n++ {
		s := example()
		s.Editions = stemOf([]int{0, 0, 0}, slices.Repeat([][]int{{0, 0, 0}}, n)...).Editions
		for _, list := range counted(n+1, n) {
			for i := range list {
				list[i]--
			}
			want := api.ErrArg
			if isTree(list) {
				want = api.OK
				trees++
			}
			if _, e := stem.Years(s, list); e != want {
				t.Errorf("Years of %v: %d", list, e)
			}
		}
	}
	if trees != 1+2+9+64+625 {
		t.Errorf("%d trees", trees)
	}
}

// What is no edition or place comes before a tree that is not possible, and this before what Second alone requires.
func TestIndexErrors(t *testing.T) {
	tree := []int{-1, 0, 1, 0}
	late := dated(example(), span(1600, 1600), span(1605, 1605), span(1604, 1604), span(1700, 1700))
	for _, s := range []api.SmStem{example(), late, together()} {
		for _, edition := range numbers(0, 4) {
			for _, place := range numbers(0, 3) {
				changes, years, reading, second := errorsOfTree(t, s, tree, edition, place)
				want, wantReading, wantSecond := api.OK, api.OK, api.OK
				if !same(s, example()) {
					want, wantReading, wantSecond = api.ErrDown, api.ErrDown, api.ErrDown
				} else if edition == q1 {
					wantSecond = api.ErrArg
				} else {
					wantSecond = api.ErrZero
				}
				if edition < 0 || edition > 3 {
					wantReading, wantSecond = api.ErrNone, api.ErrNone
				}
				if place < 0 || place > 2 {
					wantReading = api.ErrNone
				}
				if changes != want || years != want || reading != wantReading || second != wantSecond {
					t.Errorf("%v, %d, %d: %d, %d, %d, %d", s, edition, place, changes, years, reading, second)
				}
			}
			for _, other := range numbers(0, 4) {
				_, apart := stem.Apart(s, edition, other)
				from, e := stem.From(s, other, edition)
				want, wantFrom := api.OK, api.OK
				if same(s, together()) {
					wantFrom = api.ErrDown
				}
				if min(edition, other) < 0 || max(edition, other) > 3 {
					want, wantFrom = api.ErrNone, api.ErrNone
				}
				if apart != want || e != wantFrom || e != api.OK && from != 0 {
					t.Errorf("%v, %d, %d: Apart: %d; From = %d, %d", s, edition, other, apart, from, e)
				}
			}
		}
	}
}

// P7.3 to P7.7: years that do not fit, and fillings that are not possible, are not the same.
func TestDown(t *testing.T) {
	down := func(s api.SmStem, want, clean api.Errno) {
		t.Helper()
		best, changes, many, e := stem.Best(s)
		first, e2 := stem.First(s)
		from, e3 := stem.From(s, 0, 1)
		places, e4 := stem.Clean(s)
		if e != want || e2 != want || e3 != want || e4 != clean {
			t.Errorf("%v: Best: %d; First: %d; From: %d; Clean: %d", s, e, e2, e3, e4)
		}
		if want != api.OK && len(best)+changes+many+len(first)+from > 0 || clean != api.OK && len(places) > 0 {
			t.Errorf("%v: %v, %d, %d, %v, %d, %v", s, best, changes, many, first, from, places)
		}
	}
	down(example(), api.OK, api.OK)
	down(crossed(), api.ErrDown, api.OK)
	down(together(), api.ErrDown, api.ErrDown)
	down(dated(crossed(), span(1600, 1600), span(1600, 1600)), api.ErrDown, api.ErrDown)
	down(dated(crossed(), span(1600, 1600), span(1601, 1601)), api.ErrDown, api.OK)
	for _, c := range []struct {
		s                               api.SmStem
		edition                         int
		changes, years, reading, second api.Errno
	}{
		{crossed(), 1, api.ErrDown, api.OK, api.ErrDown, api.ErrZero},
		{crossed(), 0, api.ErrDown, api.OK, api.ErrDown, api.ErrArg},
		{dated(crossed(), span(1600, 1600), span(1601, 1601)), 1, api.ErrDown, api.OK, api.ErrDown, api.ErrZero},
		{dated(crossed(), span(1600, 1600), span(1600, 1600)), 1, api.ErrDown, api.ErrDown, api.ErrDown, api.ErrDown},
		{dated(crossed(), span(1601, 1601), span(1600, 1600)), 0, api.ErrDown, api.ErrDown, api.ErrDown, api.ErrDown},
	} {
		changes, years, reading, second := errorsOfTree(t, c.s, []int{-1, 0}, c.edition, 1)
		if changes != c.changes || years != c.years || reading != c.reading || second != c.second {
			t.Errorf("%v, %d: %d, %d, %d, %d", c.s, c.edition, changes, years, reading, second)
		}
	}
}

// P7.17: all functions return for any numbers.
func TestAnyArguments(t *testing.T) {
	ints := numbers(0, 1, 5, 1450)
	for _, n := range ints {
		for _, m := range ints {
			for _, s := range []api.SmStem{
				example(), places(place("p", n), place("q", m)), editions(edition("x", n, m, 1, 1, 1)),
				editions(edition("x", 1600, 1600, n, m, n), edition("y", m, n, n)), reading(example(), q3, 0, n),
			} {
				stem.Check(s)
				errorsOf(s)
				stem.Apart(s, n, m)
				stem.From(s, n, m)
				for _, tree := range [][]int{{n}, {n, m}, {-1, n, 0, m}, {n, m, m, n}, {-1, 0, 1, 0}} {
					errorsOfTree(t, s, tree, n, m)
				}
			}
		}
	}
	huge := api.SmStem{Places: make([]api.SmPlace, 1<<16), Editions: make([]api.SmEdition, 1<<16)}
	for _, part := range []int{1, 2} {
		if at, where, e := stem.Check(huge); at != part || where != 0 || e != api.ErrLong {
			t.Errorf("Check = %d, %d, %d", at, where, e)
		}
		huge.Places = example().Places
	}
	if _, e := stem.Changes(example(), make([]int, 1<<16)); e != api.ErrLong {
		t.Errorf("Changes: %d", e)
	}
	if _, _, e := stem.Check(editions(edition("x", 1600, 1600, make([]int, 1<<16)...))); e != api.ErrLong {
		t.Errorf("Check: %d", e)
	}
}

// P7.17: no argument is changed, nor the memory behind it.
func TestNotChanged(t *testing.T) {
	for i, s := range stems()[:80] {
		s = cloned(s)
		s.Places = append(s.Places, place("behind", 1))[:len(s.Places)]
		for k, x := range s.Editions {
			s.Editions[k].Readings = append(x.Readings, 7)[:len(x.Readings)]
		}
		s.Editions = append(s.Editions, edition("behind", 1, 2, 3))[:len(s.Editions)]
		d := cloned(s)
		var trees [][]int
		for _, tree := range samples()[i] {
			trees = append(trees, append(slices.Clone(tree), 7)[:len(tree)])
		}
		tell(t, s, trees)
		if !same(s, d) || !deeply(trees, samples()[i]) {
			t.Errorf("%v became %v; %v became %v", d, s, samples()[i], trees)
		}
		n, m := len(s.Places), len(s.Editions)
		behind := s.Editions[:m+1][m]
		if s.Places[:n+1][n] != place("behind", 1) || behind.Name != "behind" || behind.Year != span(1, 2) || !slices.Equal(behind.Readings, []int{3}) {
			t.Errorf("what is behind %v was changed", d)
		}
		for _, x := range s.Editions {
			if x.Readings[:n+1][n] != 7 {
				t.Errorf("what is behind the readings of %v was changed", d)
			}
		}
		for _, tree := range trees {
			if tree[:m+1][m] != 7 {
				t.Errorf("what is behind the tree %v was changed", tree)
			}
		}
	}
}

// P7.17: results are new memory: what is written there is seen neither in the arguments, nor in other results.
func TestNewMemory(t *testing.T) {
	tree := []int{-1, 0, 1, 0}
	for _, s := range []api.SmStem{example(), crossed(), reading(example(), q1, 1, 0)} {
		d, trees := cloned(s), [][]int{tree[:len(s.Editions)]}
		want := fmt.Sprint(tell(t, s, trees))
		x := tell(t, s, trees)
		for _, list := range slices.Concat(slices.Concat(x.apart...), slices.Concat(x.trees[0].readings...), [][]int{x.best, x.first, x.clean}) {
			scribble(list)
		}
		years := x.trees[0].years
		for i := range years[:cap(years)] {
			years[:cap(years)][i] = span(-7, -7)
		}
		if !same(s, d) || !slices.Equal(tree, []int{-1, 0, 1, 0}) || fmt.Sprint(tell(t, s, trees)) != want {
			t.Errorf("%v became %v, %v", d, s, tree)
		}
	}
}

// scribble overwrites a list, also beyond its end.
func scribble(list []int) {
	list = list[:cap(list)]
	for i := range list {
		list[i] = -7
	}
}
