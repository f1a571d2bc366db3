package skel_test

import (
	"fmt"
	"math"
	"slices"
	"strings"
	"testing"

	"duodecimo/api"
	"duodecimo/skel"
)

// changed is the example after a change.
func changed(change func(*api.SkJob)) api.SkJob {
	j := example()
	change(&j)
	return j
}

// types is the example with other types.
func types(list ...string) api.SkJob { return changed(func(j *api.SkJob) { j.Types = list }) }

// formes is the example with other formes.
func formes(list ...api.SkForme) api.SkJob {
	return changed(func(j *api.SkJob) { j.Formes, j.Sights = list, nil })
}

// sights is the example with other sightings.
func sights(list ...api.SkSight) api.SkJob {
	return changed(func(j *api.SkJob) { j.Sights = list })
}

// jobCase is a job, and what Check returns.
type jobCase struct {
	j        api.SkJob
	part, at int
	e        api.Errno
}

// jobCases are jobs with and without errors.
func jobCases() []jobCase {
	long := strings.Repeat("a", api.MaxName)
	p, q := forme("p", 0, 0, 0), forme("q", 1, 2, 3)
	s := sight(0, 0, un)
	list := []jobCase{
		{example(), 0, 0, api.OK},
		{contradictory(), 0, 0, api.OK},
		{formes(p), 0, 0, api.OK},
		{api.SkJob{Formes: []api.SkForme{p}}, 0, 0, api.OK},
		{changed(func(j *api.SkJob) { j.Types = make([]string, 7) }), 1, 0, api.ErrLong},
		{changed(func(j *api.SkJob) { j.Types, j.Formes, j.Sights = make([]string, 7), nil, make([]api.SkSight, 13) }), 1, 0, api.ErrLong},
		{types("a", "b", "c", "d", "e", "f"), 0, 0, api.OK},
		{types("a", "b", "c", "d", "e", "f", "g"), 1, 0, api.ErrLong},
		{types("a", ""), 1, 1, api.ErrForm},
		{types("a", "b", "2", "2", "a"), 1, 2, api.ErrForm},
		{types(long, long+"a"), 1, 1, api.ErrForm},
		{types("a", "b", "a", "A"), 1, 2, api.ErrTwice},
		{types("a", "a", "a"), 1, 1, api.ErrTwice},
		{changed(func(j *api.SkJob) { j.Types[1], j.Formes = "a b", nil }), 1, 1, api.ErrForm},
		{changed(func(j *api.SkJob) { j.Types[1], j.Formes = "e", nil }), 1, 1, api.ErrTwice},
		{api.SkJob{}, 2, 0, api.ErrLong},
		{changed(func(j *api.SkJob) { j.Formes = nil }), 2, 0, api.ErrLong},
		{formes(make([]api.SkForme, 8)...), 2, 0, api.ErrLong},
		{formes(p, q, forme("", -1, 5, 4)), 2, 2, api.ErrForm},
		{formes(forme("P", 61, 5, 4), p, p), 2, 0, api.ErrForm},
		{formes(forme(long, 0, 0, 0), forme(long+"a", 0, 0, 0)), 2, 1, api.ErrForm},
		{formes(p, q, forme("p", -1, 5, 4)), 2, 2, api.ErrTwice},
		{formes(p, p, forme("", 0, 0, 0)), 2, 1, api.ErrTwice},
		{formes(forme("e", 0, 0, 0), forme("f", 0, 0, 0)), 0, 0, api.OK},
		{formes(p, forme("q", 5, 4, 61), p), 2, 1, api.ErrRange},
		{formes(forme("q", -1, 4, 3)), 2, 0, api.ErrRange},
		{formes(forme("q", 5, -1, 6)), 2, 0, api.ErrRange},
		{formes(forme("q", 61, 61, 61)), 2, 0, api.ErrRange},
		{formes(forme("q", math.MinInt, 1, 2)), 2, 0, api.ErrRange},
		{formes(p, forme("q", 5, 4, 6), p), 2, 1, api.ErrArg},
		{formes(p, forme("q", 5, 5, 4), p), 2, 1, api.ErrArg},
		{formes(p, forme("q", 5, 7, 6), forme("q", 1, 1, 1)), 2, 1, api.ErrArg},
		{formes(p, forme("q", 60, 60, 60), forme("r", 0, 0, 60), forme("s", 0, 60, 60)), 0, 0, api.OK},
		{changed(func(j *api.SkJob) { j.Formes[4].On, j.Sights = 8, make([]api.SkSight, 13) }), 2, 4, api.ErrArg},
		{sights(), 0, 0, api.OK},
		{sights(make([]api.SkSight, 13)...), 3, 0, api.ErrLong},
		{sights(make([]api.SkSight, 12)...), 3, 1, api.ErrTwice},
		{sights(s, sight(5, 0, 9)), 3, 1, api.ErrNone},
		{sights(sight(0, 2, 9), s, s), 3, 0, api.ErrNone},
		{sights(sight(-1, 0, un)), 3, 0, api.ErrNone},
		{sights(sight(0, -1, un)), 3, 0, api.ErrNone},
		{sights(s, sight(0, 0, 3), sight(9, 9, 9)), 3, 1, api.ErrRange},
		{sights(sight(0, 0, -1), s), 3, 0, api.ErrRange},
		{sights(s, sight(0, 1, un), sight(1, 0, un), sight(0, 0, wh), sight(9, 9, 9)), 3, 3, api.ErrTwice},
		{sights(sight(0, 0, wh), sight(1, 0, cr), sight(0, 0, un)), 3, 2, api.ErrTwice},
		{changed(func(j *api.SkJob) { j.Types = nil }), 3, 0, api.ErrNone},
	}
	for _, n := range numbers(0, 60) {
		c := jobCase{formes(p, forme("q", n, 60, 60)), 2, 1, api.ErrRange}
		d := jobCase{formes(p, forme("q", 0, 0, n)), 2, 1, api.ErrRange}
		f := jobCase{formes(p, forme("q", 0, n, 60)), 2, 1, api.ErrRange}
		if n >= 0 && n <= 60 {
			for _, x := range []*jobCase{&c, &d, &f} {
				x.part, x.at, x.e = 0, 0, api.OK
			}
		}
		list = append(list, c, d, f)
	}
	for _, n := range numbers(un, wh, cr) {
		c := jobCase{sights(s, sight(4, 1, n)), 3, 1, api.ErrRange}
		if n == un || n == wh || n == cr {
			c.part, c.at, c.e = 0, 0, api.OK
		}
		list = append(list, c)
	}
	return list
}

// errorsOf are the errors of all functions but Check, each called with errors of its own as well; none may return anything else with an error.
func errorsOf(j api.SkJob) map[string]api.Errno {
	groups, e1 := skel.Groups(j)
	a, b, e2 := skel.Clash(j)
	crack, e3 := skel.Crack(j, -1)
	doubt, e4 := skel.Doubt(j)
	skeletons, many, e5 := skel.Fewest(j)
	proof, e6 := skel.Proof(j)
	share, e7 := skel.Share(j, -1, 99)
	room, e8 := skel.Room(j, []int{9, 9}, 0)
	presses, needed, e9 := skel.Presses(j)
	day, standing, e10 := skel.Standing(j)
	list := map[string]api.Errno{"Groups": e1, "Clash": e2, "Crack": e3, "Doubt": e4, "Fewest": e5, "Proof": e6, "Share": e7, "Room": e8, "Presses": e9, "Standing": e10}
	sum := len(groups) + a + b + len(doubt) + len(skeletons) + many + len(proof) + share + room + len(presses) + needed + day + len(standing)
	if sum != 0 || crack != span(0, 0) {
		list["a result with an error"] = -1
	}
	return list
}

// P5.1: the errors of a job in their order, and those before it of all other functions.
func TestCheck(t *testing.T) {
	for i, c := range jobCases() {
		part, at, e := skel.Check(c.j)
		if part != c.part || at != c.at || e != c.e {
			t.Errorf("%d: Check = %d, %d, %d", i, part, at, e)
		}
		if c.e == api.OK {
			continue
		}
		for name, e := range errorsOf(c.j) {
			if e != c.e {
				t.Errorf("%d: %s: %d", i, name, e)
			}
		}
	}
}

// P5.1: all jobs that the other tests are about have no error.
func TestCheckJobs(t *testing.T) {
	for _, j := range jobs() {
		if part, at, e := skel.Check(j); part != 0 || at != 0 || e != api.OK {
			t.Errorf("Check(%v) = %d, %d, %d", j, part, at, e)
		}
	}
}

// P5.2: Clash returns ErrNone if no formes clash, also without any sighting.
func TestClashErrors(t *testing.T) {
	for _, j := range []api.SkJob{example(), sights(), jobOf(0, [][3]int{{}, {}})} {
		if a, b, e := skel.Clash(j); a != 0 || b != 0 || e != api.ErrNone {
			t.Errorf("Clash(%v) = %d, %d, %d", j, a, b, e)
		}
	}
}

// P5.3: what is no type comes before a type that cannot have cracked on any day; a clash does not matter.
func TestCrackErrors(t *testing.T) {
	never := example(sight(1, 0, cr), sight(3, 0, wh)) // cracked by the day 5, and whole on the day 9
	for _, j := range []api.SkJob{example(), contradictory(), never, sights()} {
		for _, kind := range numbers(0, 2) {
			want := api.OK
			switch {
			case kind < 0 || kind > 1:
				want = api.ErrNone
			case kind == 0 && same(j, never):
				want = api.ErrZero
			}
			if s, e := skel.Crack(j, kind); e != want || e != api.OK && s != span(0, 0) {
				t.Errorf("Crack(%v, %d) = %v, %d", j, kind, s, e)
			}
		}
	}
	if s, e := skel.Crack(jobOf(0, [][3]int{{}}), 0); s != span(0, 0) || e != api.ErrNone {
		t.Errorf("Crack without types = %v, %d", s, e)
	}
}

// P5.4: Fewest and Proof return ErrDown if two formes clash; types that cannot have cracked do not matter.
func TestDown(t *testing.T) {
	if list, many, e := skel.Fewest(contradictory()); len(list) != 0 || many != 0 || e != api.ErrDown {
		t.Errorf("Fewest = %v, %d, %d", list, many, e)
	}
	if list, e := skel.Proof(contradictory()); len(list) != 0 || e != api.ErrDown {
		t.Errorf("Proof = %v, %d", list, e)
	}
	never := sights(sight(0, 0, cr), sight(4, 0, wh))
	if _, many, e := skel.Fewest(never); many != 2 || e != api.OK {
		t.Errorf("Fewest = %d, %d", many, e)
	}
	if _, e := skel.Proof(never); e != api.OK {
		t.Errorf("Proof: %d", e)
	}
	if n, e := skel.Share(never, 0, 4); n != api.SkSame || e != api.OK {
		t.Errorf("Share = %d, %d", n, e)
	}
}

// P5.5: what is no forme comes before a clash.
func TestShareErrors(t *testing.T) {
	for _, j := range []api.SkJob{example(), contradictory()} {
		for _, a := range numbers(0, 5) {
			for _, b := range numbers(0, 5) {
				want := api.OK
				switch {
				case a < 0 || a > 4 || b < 0 || b > 4:
					want = api.ErrNone
				case len(j.Sights) > 4:
					want = api.ErrDown
				}
				if n, e := skel.Share(j, a, b); e != want || e != api.OK && n != 0 {
					t.Errorf("Share(%v, %d, %d) = %d, %d", j, a, b, n, e)
				}
			}
		}
	}
}

// P5.5: the errors of Room in their order, and before a clash.
func TestRoomErrors(t *testing.T) {
	for i, c := range []struct {
		types []int
		days  int
		e     api.Errno
	}{
		{[]int{2}, 1, api.ErrNone},
		{[]int{-1}, 1, api.ErrNone},
		{[]int{0, 1, math.MaxInt}, 1, api.ErrNone},
		{[]int{0, 0, 2}, 0, api.ErrNone},
		{[]int{math.MinInt, 0, 0}, 61, api.ErrNone},
		{make([]int, 1<<20), 1, api.ErrTwice},
		{[]int{1, 0, 1}, 0, api.ErrTwice},
		{[]int{0, 0}, 61, api.ErrTwice},
		{[]int{0}, 0, api.ErrRange},
		{[]int{0}, 61, api.ErrRange},
		{nil, -1, api.ErrRange},
		{[]int{1, 0}, math.MinInt, api.ErrRange},
		{[]int{1, 0}, math.MaxInt, api.ErrRange},
		{[]int{0, 1}, 1, api.ErrDown},
		{[]int{0}, 60, api.ErrDown},
	} {
		for _, j := range []api.SkJob{example(), contradictory()} {
			if day, e := skel.Room(j, c.types, c.days); day != 0 || e != c.e {
				t.Errorf("%d: Room = %d, %d", i, day, e)
			}
		}
	}
	for _, days := range numbers(1, 60) {
		want := api.ErrRange
		if days >= 1 && days <= 60 {
			want = api.OK
		}
		if day, e := skel.Room(formes(forme("p", 60, 60, 60)), nil, days); day != 0 || e != want {
			t.Errorf("Room for %d days = %d, %d", days, day, e)
		}
	}
	for i, c := range []struct {
		types []int
		days  int
	}{{nil, 1}, {[]int{0}, 2}, {[]int{1}, 3}} {
		if day, e := skel.Room(contradictory(), c.types, c.days); day != 0 || e != api.ErrDown {
			t.Errorf("%d: Room = %d, %d", i, day, e)
		}
	}
}

// P5.16: all functions return for any numbers.
func TestAnyArguments(t *testing.T) {
	ints := numbers(0, 1, 60)
	for _, n := range ints {
		for _, m := range ints {
			for many := range 4 {
				j := jobOf(many, [][3]int{{n, m, m}, {0, n, m}, {0, 0, 60}, {n, n, n}}, sight(0, 0, n), sight(n, m, 0), sight(0, 0, 0))
				j.Formes = j.Formes[:many]
				skel.Check(j)
				errorsOf(j)
				k := jobOf(many, [][3]int{{0, 0, 60}, {0, 1, 2}}, sight(0, 0, wh)).Formes[:min(many, 2)]
				j.Formes, j.Sights = k, j.Sights[:1]
				skel.Check(j)
				errorsOf(j)
				skel.Crack(j, n)
				skel.Share(j, n, m)
				skel.Room(j, []int{n, m}, m)
			}
		}
	}
	huge := api.SkJob{Types: make([]string, 1<<16), Formes: make([]api.SkForme, 1<<16), Sights: make([]api.SkSight, 1<<16)}
	for part := 1; part <= 3; part++ {
		if at, where, e := skel.Check(huge); at != part || where != 0 || e != api.ErrLong {
			t.Errorf("Check = %d, %d, %d", at, where, e)
		}
		huge.Types = nil
		if part == 2 {
			huge.Formes = example().Formes
		}
	}
}

// P5.16: no argument is changed, nor the memory behind it.
func TestNotChanged(t *testing.T) {
	for _, j := range append(jobs()[:60:60], example(), contradictory()) {
		j.Types = append(j.Types, "behind")[:len(j.Types)]
		j.Formes = append(j.Formes, forme("behind", 1, 2, 3))[:len(j.Formes)]
		j.Sights = append(j.Sights, sight(7, 7, 7))[:len(j.Sights)]
		k := cloned(j)
		var types []int
		for kind := range j.Types {
			types = append([]int{kind}, types...)
		}
		list := slices.Clone(types)
		tell(t, j)
		skel.Room(j, types, 2)
		skel.Room(j, nil, 2)
		if !same(j, k) || !slices.Equal(types, list) {
			t.Errorf("%v, %v became %v, %v", k, list, j, types)
		}
		n, m, o := len(j.Types), len(j.Formes), len(j.Sights)
		if j.Types[:n+1][n] != "behind" || j.Formes[:m+1][m] != forme("behind", 1, 2, 3) || j.Sights[:o+1][o] != sight(7, 7, 7) {
			t.Errorf("what is behind %v was changed", k)
		}
	}
}

// P5.16: results are new memory: what is written there is seen neither in the arguments, nor in other results.
func TestNewMemory(t *testing.T) {
	for _, j := range []api.SkJob{example(), contradictory()} {
		k := cloned(j)
		want := fmt.Sprint(tell(t, j))
		a := tell(t, j)
		for _, list := range [][]int{a.groups, a.doubt, a.skeletons, a.proof, a.presses, a.standing} {
			scribble(list)
		}
		if !same(j, k) || fmt.Sprint(tell(t, j)) != want {
			t.Errorf("%v became %v", k, j)
		}
	}
}

// scribble overwrites a list, also beyond its end.
func scribble(list []int) {
	list = list[:cap(list)]
	for i := range list {
		list[i] = -7
	}
}
