package skel_test

import (
	"slices"
	"testing"

	"duodecimo/api"
	"duodecimo/skel"
)

// The chapter's examples of groups, cracks and doubts.
func TestExamplesOfSightings(t *testing.T) {
	a := tell(t, example())
	if !slices.Equal(a.groups, []int{0, 1, 0, 3, 1}) || a.none != api.ErrNone {
		t.Errorf("Groups = %v, Clash: %d", a.groups, a.none)
	}
	if !slices.Equal(a.cracks, []api.Span{span(2, 8), span(12, 61)}) || len(a.doubt) != 0 {
		t.Errorf("Crack = %v, Doubt = %v", a.cracks, a.doubt)
	}
	b := tell(t, contradictory())
	if b.a != 0 || b.b != 1 || b.none != api.OK || !slices.Equal(b.doubt, []int{4}) || b.down != api.ErrDown {
		t.Errorf("Clash = %d, %d, %d; Doubt = %v; Fewest: %d", b.a, b.b, b.none, b.doubt, b.down)
	}
}

// The chapter's examples of skeletons, presses and days.
func TestExamplesOfSkeletons(t *testing.T) {
	a := tell(t, example())
	if !slices.Equal(a.skeletons, []int{0, 1, 0, 2, 1}) || a.many != 3 || !slices.Equal(a.proof, []int{1, 2, 3, 4}) {
		t.Errorf("Fewest = %v, %d; Proof = %v", a.skeletons, a.many, a.proof)
	}
	if a.share[0][2] != api.SkSame || a.share[0][3] != api.SkNever {
		t.Errorf("Share = %v", a.share)
	}
	if !slices.Equal(a.presses, []int{0, 0, 0, 0, 0}) || a.needed != 1 || a.day != 2 || !slices.Equal(a.standing, []int{0, 1}) {
		t.Errorf("Presses = %v, %d; Standing = %d, %v", a.presses, a.needed, a.day, a.standing)
	}
	for i, c := range []struct {
		types     []int
		days, day int
		e         api.Errno
	}{
		{[]int{0}, 2, 9, api.OK}, {[]int{1}, 3, 6, api.OK}, {[]int{0, 1}, 1, 0, api.ErrDown}, {nil, 1, 0, api.OK},
	} {
		if day, e := skel.Room(example(), c.types, c.days); day != c.day || e != c.e {
			t.Errorf("%d: Room = %d, %d", i, day, e)
		}
	}
}

// P5.2: Groups names the first forme of each group, and Clash the first two formes that clash, of all of them.
func TestGroupsClash(t *testing.T) {
	clashing, several := 0, 0
	for i, j := range jobs() {
		a := answers(t)[i]
		joined := joinedOf(j)
		for f := range j.Formes {
			if want := slices.Index(joined[f][:], true); a.groups[f] != want {
				t.Errorf("Groups(%v) = %v, not %d at %d", j, a.groups, want, f)
			}
		}
		list := clashesOf(j)
		if len(a.groups) != len(j.Formes) || (a.none == api.OK) != (len(list) > 0) || (a.down == api.ErrDown) != (len(list) > 0) {
			t.Errorf("%v: Groups = %v; Clash: %d, Fewest: %d; %v", j, a.groups, a.none, a.down, list)
			continue
		}
		if len(list) > 0 && [2]int{a.a, a.b} != list[0] || len(list) == 0 && a.a+a.b != 0 {
			t.Errorf("Clash(%v) = %d, %d; %v", j, a.a, a.b, list)
		}
		clashing += min(1, len(list))
		several += min(1, len(list)/2)
	}
	if clashing < 40 || several < 20 || clashing > len(jobs())-80 {
		t.Errorf("in %d jobs of %d formes clash, in %d several", clashing, len(jobs()), several)
	}
}

// P5.2: of formes that clash the first ones are named by the first of the two, and then by the second.
func TestClashOfSeveral(t *testing.T) {
	days := [][3]int{{0, 1, 9}, {20, 21, 29}, {5, 6, 8}, {25, 25, 25}, {9, 9, 9}, {9, 10, 11}}
	for i, c := range []struct {
		list []api.SkSight
		a, b int
		e    api.Errno
	}{
		{[]api.SkSight{sight(5, 0, un), sight(0, 0, un)}, 0, 5, api.OK},
		{[]api.SkSight{sight(1, 1, un), sight(3, 1, un), sight(4, 0, un), sight(0, 0, un)}, 0, 4, api.OK},
		{[]api.SkSight{sight(1, 1, un), sight(3, 1, un), sight(4, 0, un), sight(5, 0, un)}, 1, 3, api.OK},
		{[]api.SkSight{sight(4, 1, un), sight(5, 1, un), sight(4, 0, un), sight(2, 0, un)}, 4, 5, api.OK},
		{[]api.SkSight{sight(4, 1, un), sight(2, 1, un), sight(1, 1, un), sight(1, 0, un), sight(0, 0, un)}, 0, 2, api.OK},
		{[]api.SkSight{sight(4, 1, un), sight(2, 1, un), sight(1, 1, un), sight(5, 0, un), sight(0, 1, un)}, 0, 2, api.OK},
		{[]api.SkSight{sight(2, 1, un), sight(4, 1, un), sight(1, 1, un), sight(5, 0, un), sight(0, 0, un)}, 0, 5, api.OK},
		{[]api.SkSight{sight(2, 1, un), sight(4, 1, un), sight(1, 1, un), sight(3, 0, un)}, 0, 0, api.ErrNone},
	} {
		if a, b, e := skel.Clash(jobOf(2, days, c.list...)); a != c.a || b != c.b || e != c.e {
			t.Errorf("%d: Clash = %d, %d, %d", i, a, b, e)
		}
	}
}

// P5.3: Crack is from the first to the last day on which a type can have cracked, by trying all days.
func TestCrack(t *testing.T) {
	zeros, ends := 0, map[bool]int{}
	for i, j := range jobs() {
		a := answers(t)[i]
		for kind := range j.Types {
			list := cracksOf(j, kind)
			if len(list) == 0 {
				zeros++
				if a.zeros[kind] != api.ErrZero || a.cracks[kind] != span(0, 0) {
					t.Errorf("Crack(%v, %d) = %v, %d", j, kind, a.cracks[kind], a.zeros[kind])
				}
				continue
			}
			want := span(list[0], list[len(list)-1])
			if a.zeros[kind] != api.OK || a.cracks[kind] != want || want.Hi-want.Lo+1 != len(list) {
				t.Errorf("Crack(%v, %d) = %v, %d; %v", j, kind, a.cracks[kind], a.zeros[kind], list)
			}
			ends[want.Lo > 0 && want.Hi <= api.MaxSkDay]++
		}
	}
	if zeros < 10 || ends[true] < 20 || ends[false] < 100 {
		t.Errorf("%d types cannot have cracked; %v", zeros, ends)
	}
}

// P5.3: the days of Crack at their ends: cracked on the first day of all, whole on the last one.
func TestCrackEnds(t *testing.T) {
	for i, c := range []struct {
		days [3]int
		look int
		want api.Span
	}{
		{[3]int{0, 0, 0}, un, span(0, 61)},
		{[3]int{0, 0, 0}, cr, span(0, 0)},
		{[3]int{0, 0, 0}, wh, span(1, 61)},
		{[3]int{60, 60, 60}, wh, span(61, 61)},
		{[3]int{60, 60, 60}, cr, span(0, 60)},
		{[3]int{3, 10, 20}, wh, span(11, 61)},
		{[3]int{3, 10, 20}, cr, span(0, 20)},
	} {
		if s, e := skel.Crack(jobOf(1, [][3]int{c.days}, sight(0, 0, c.look)), 0); s != c.want || e != api.OK {
			t.Errorf("%d: Crack = %v, %d", i, s, e)
		}
	}
	both := [][3]int{{0, 5, 9}, {5, 8, 9}}
	for i, c := range []struct {
		first, second int
		want          api.Span
		e             api.Errno
	}{
		{wh, cr, span(6, 9), api.OK}, {cr, wh, span(9, 9), api.OK}, {cr, cr, span(0, 9), api.OK}, {wh, wh, span(9, 61), api.OK},
	} {
		if s, e := skel.Crack(jobOf(1, both, sight(0, 0, c.first), sight(1, 0, c.second)), 0); s != c.want || e != c.e {
			t.Errorf("%d: Crack = %v, %d", i, s, e)
		}
	}
	if s, e := skel.Crack(jobOf(1, [][3]int{{0, 5, 8}, {5, 8, 9}}, sight(0, 0, cr), sight(1, 0, wh)), 0); s != span(0, 0) || e != api.ErrZero {
		t.Errorf("Crack = %v, %d", s, e)
	}
}

// P5.3, P5.10: Doubt is the first of the shortest lists of sightings without which all others agree, by trying all lists.
func TestDoubt(t *testing.T) {
	sizes := map[int]int{}
	for i, j := range jobs() {
		doubt := answers(t)[i].doubt
		for _, some := range subsets(len(j.Sights)) {
			if agreeing(without(j, some)) {
				if !slices.Equal(doubt, some) {
					t.Errorf("Doubt(%v) = %v, not %v", j, doubt, some)
				}
				break
			}
		}
		sizes[len(doubt)]++
	}
	for n := range 4 {
		if sizes[n] < 5 {
			t.Errorf("Doubt has %d sightings in %d jobs", n, sizes[n])
		}
	}
}

// P5.3: Doubt for types that cannot have cracked, without any clash; of as few sightings the first ones.
func TestDoubtOfCracks(t *testing.T) {
	days := [][3]int{{0, 0, 1}, {10, 10, 11}, {20, 20, 21}, {30, 30, 31}}
	for i, c := range []struct {
		looks []int
		want  []int
	}{
		{[]int{wh, un, cr, cr}, nil},
		{[]int{cr, wh, un, un}, []int{0}},
		{[]int{cr, wh, cr, un}, []int{0}},
		{[]int{wh, cr, wh, cr}, []int{1}},
		{[]int{un, cr, cr, wh}, []int{3}},
		{[]int{cr, cr, wh, wh}, []int{0, 1}},
		{[]int{cr, wh, cr, wh}, []int{0, 2}},
		{[]int{cr, wh, wh, cr}, []int{0}},
	} {
		var list []api.SkSight
		for f, look := range c.looks {
			list = append(list, sight(f, 0, look))
		}
		if doubt, e := skel.Doubt(jobOf(1, days, list...)); !slices.Equal(doubt, c.want) || e != api.OK {
			t.Errorf("%d: Doubt = %v, %d", i, doubt, e)
		}
	}
}

// P5.4, P5.5: Fewest is the first one of all skeletons of which there are fewest, and Share what all of these have in common, by trying all skeletons.
func TestFewestShare(t *testing.T) {
	manies, shares := map[int]int{}, map[int]int{}
	for i, j := range jobs() {
		a := answers(t)[i]
		list := skeletonsOf(j)
		if len(list) == 0 {
			if a.down != api.ErrDown || len(a.skeletons)+a.many+len(a.proof) != 0 {
				t.Errorf("Fewest(%v) = %v, %d, %d; Proof = %v", j, a.skeletons, a.many, a.down, a.proof)
			}
			continue
		}
		if !slices.Equal(a.skeletons, list[0]) || a.many != howMany(list[0]) {
			t.Errorf("Fewest(%v) = %v, %d, %d, not %v", j, a.skeletons, a.many, a.down, list[0])
		}
		manies[a.many]++
		for f := range j.Formes {
			for g := range j.Formes {
				alike := 0
				for _, l := range list {
					if l[f] == l[g] {
						alike++
					}
				}
				want := map[int]int{len(list): api.SkSame, 0: api.SkNever}[alike]
				if a.share[f][g] != want {
					t.Errorf("Share(%v, %d, %d) = %d, not %d", j, f, g, a.share[f][g], want)
				}
				if f != g {
					shares[want]++
				}
			}
		}
	}
	for many := 1; many <= 5; many++ {
		if manies[many] < 5 {
			t.Errorf("%d jobs need %d skeletons", manies[many], many)
		}
	}
	if shares[api.SkMay] < 100 || shares[api.SkSame] < 100 || shares[api.SkNever] < 100 {
		t.Errorf("Share: %v", shares)
	}
}

// P5.4, P5.9: Proof is the first of the shortest lists of formes that need as many skeletons as all, by trying all lists.
func TestProof(t *testing.T) {
	sizes := map[int]int{}
	longer := 0
	for i, j := range jobs() {
		a := answers(t)[i]
		if a.down != api.OK {
			continue
		}
		for _, some := range subsets(len(j.Formes)) {
			if len(some) > 0 && howMany(skeletonsOf(only(j, some))[0]) == a.many {
				if !slices.Equal(a.proof, some) {
					t.Errorf("Proof(%v) = %v, not %v", j, a.proof, some)
				}
				break
			}
		}
		sizes[len(a.proof)]++
		if len(a.proof) > a.many {
			longer++
		}
	}
	for n := 1; n <= 5; n++ {
		if sizes[n] < 5 {
			t.Errorf("Proof has %d formes in %d jobs", n, sizes[n])
		}
	}
	if longer < 5 {
		t.Errorf("just %d proofs have more formes than there are skeletons", longer)
	}
}

// P5.4: formes that are joined by another one alone need it in Proof.
func TestProofOfJoined(t *testing.T) {
	// The second and the last forme are joined by the first one; it is the link, and nothing else.
	days := [][3]int{{50, 50, 50}, {2, 4, 5}, {4, 6, 8}, {6, 9, 10}, {9, 11, 12}}
	j := jobOf(2, days, sight(0, 0, un), sight(1, 0, un), sight(0, 1, un), sight(4, 1, un))
	a := tell(t, j)
	if !slices.Equal(a.skeletons, []int{0, 0, 1, 2, 0}) || a.many != 3 || !slices.Equal(a.proof, []int{0, 1, 2, 3, 4}) {
		t.Errorf("Fewest = %v, %d; Proof = %v", a.skeletons, a.many, a.proof)
	}
}

// P5.6: Presses is the first one of all presses of which there are fewest, by trying all of them, also if formes clash.
func TestPresses(t *testing.T) {
	manies := map[int]int{}
	for i, j := range jobs() {
		a := answers(t)[i]
		want := pressesOf(j)[0]
		if !slices.Equal(a.presses, want) || a.needed != howMany(want) {
			t.Errorf("Presses(%v) = %v, %d, not %v", j, a.presses, a.needed, want)
		}
		manies[a.needed]++
	}
	for many := 1; many <= 4; many++ {
		if manies[many] < 5 {
			t.Errorf("%d jobs need %d presses", manies[many], many)
		}
	}
}

// P5.6: presses are told from skeletons: formes that stand together, but are not printed so, have one, and so have formes that are printed one behind the other.
func TestPressesAndSkeletons(t *testing.T) {
	days := [][3]int{{0, 5, 6}, {0, 7, 7}, {0, 8, 9}, {1, 9, 12}}
	for i, c := range []struct {
		many    int
		presses []int
		needed  int
	}{
		{1, []int{0}, 1}, {2, []int{0, 0}, 1}, {3, []int{0, 0, 0}, 1}, {4, []int{0, 0, 0, 1}, 2},
	} {
		a := tell(t, jobOf(0, days[:c.many]))
		if !slices.Equal(a.presses, c.presses) || a.needed != c.needed || a.many != c.many {
			t.Errorf("%d: Presses = %v, %d; Fewest = %d", i, a.presses, a.needed, a.many)
		}
	}
	if a := tell(t, jobOf(1, [][3]int{{0, 1, 9}, {10, 10, 11}, {3, 4, 12}}, sight(0, 0, un), sight(1, 0, un))); !slices.Equal(a.presses, []int{0, 0, 1}) || !slices.Equal(a.skeletons, []int{0, 0, 1}) {
		t.Errorf("Presses = %v, Fewest = %v", a.presses, a.skeletons)
	}
}

// P5.6: Standing is the first day on which the most formes stand, and these.
func TestStanding(t *testing.T) {
	for i, j := range jobs() {
		a := answers(t)[i]
		day := 0
		for d := range api.MaxSkDay + 1 {
			if len(onDay(j, d, standsOn)) > len(onDay(j, day, standsOn)) {
				day = d
			}
		}
		if a.day != day || !slices.Equal(a.standing, onDay(j, day, standsOn)) || len(a.standing) == 0 {
			t.Errorf("Standing(%v) = %d, %v, not %d", j, a.day, a.standing, day)
		}
	}
	for _, day := range []int{0, 1, 59, 60} {
		j := jobOf(0, [][3]int{{day, day, day}, {day, day, 60}})
		if d, list, e := skel.Standing(j); d != day || !slices.Equal(list, []int{0, 1}) || e != api.OK {
			t.Errorf("Standing(%v) = %d, %v, %d", j, d, list, e)
		}
	}
}

// fits reports whether a further forme clashes with none, nor makes others clash, and needs no skeleton more than so many.
func fits(j api.SkJob, f api.SkForme, types []int, many int) bool {
	more := with(j, f, types)
	joined, stand := joinedOf(more), togetherOf(more, standsOn)
	return slices.ContainsFunc(partitions()[len(more.Formes)], func(l []int) bool {
		return slices.Max(l) < many && does(l, joined, stand)
	})
}

// roomOf is the first day on which there is room for a further forme, or -1, by trying all days.
func roomOf(j api.SkJob, types []int, days int) int {
	many := howMany(skeletonsOf(j)[0])
	for day := 0; day+days-1 <= api.MaxSkDay; day++ {
		if fits(j, forme("further", day, day, day+days-1), types, many) {
			return day
		}
	}
	return -1
}

// typesOf are some types of a job, in some order.
func typesOf(j api.SkJob, i int) []int {
	var list []int
	for kind := range j.Types {
		if (i>>kind)%2 > 0 {
			list = append([]int{kind}, list...)
		}
	}
	return list
}

// P5.5, P5.14: Room is the first day on which a further forme has room, by trying all of them, also for the most formes and sightings.
func TestRoom(t *testing.T) {
	days := map[int]int{}
	for i, j := range jobs() {
		if answers(t)[i].down != api.OK {
			continue
		}
		for n, long := range []int{1, 2, 9, 25, 60} {
			types := typesOf(j, i+13*n)
			want, e := roomOf(j, types, long), api.OK
			days[min(want, 2)]++
			if want < 0 {
				want, e = 0, api.ErrDown
			}
			if got, f := skel.Room(j, types, long); got != want || f != e {
				t.Errorf("Room(%v, %v, %d) = %d, %d, not %d, %d", j, types, long, got, f, want, e)
			}
		}
	}
	if days[-1] < 40 || days[0] < 40 || days[2] < 40 {
		t.Errorf("Room: %v", days)
	}
}

// P5.5: the last day of the further forme is at most the last day of all; what would need one more skeleton has no room, nor what would make others clash.
func TestRoomEnds(t *testing.T) {
	one := jobOf(2, [][3]int{{10, 11, 50}}, sight(0, 0, un))
	two := jobOf(2, [][3]int{{0, 0, 30}, {20, 21, 50}}, sight(0, 0, un), sight(1, 1, un))
	for i, c := range []struct {
		j         api.SkJob
		types     []int
		days, day int
		e         api.Errno
	}{
		{one, nil, 10, 0, api.OK},
		{one, []int{0}, 10, 0, api.OK},
		{one, []int{1, 0}, 11, 0, api.ErrDown},
		{two, nil, 1, 0, api.OK},
		{two, nil, 20, 0, api.OK},
		{two, nil, 21, 31, api.OK},
		{two, []int{1}, 20, 0, api.OK},
		{two, []int{1}, 21, 0, api.ErrDown},
		{two, []int{0}, 1, 31, api.OK},
		{two, []int{0}, 30, 31, api.OK},
		{two, []int{0}, 31, 0, api.ErrDown},
		{two, []int{0, 1}, 1, 0, api.ErrDown},
		{jobOf(0, [][3]int{{0, 0, 0}}), nil, 60, 1, api.OK},
		{jobOf(0, [][3]int{{0, 0, 1}}), nil, 60, 0, api.ErrDown},
		{jobOf(0, [][3]int{{60, 60, 60}}), nil, 60, 0, api.OK},
		{jobOf(0, [][3]int{{0, 0, 59}}), nil, 1, 60, api.OK},
		{jobOf(0, [][3]int{{0, 0, 59}}), nil, 2, 0, api.ErrDown},
	} {
		if day, e := skel.Room(c.j, c.types, c.days); day != c.day || e != c.e {
			t.Errorf("%d: Room = %d, %d", i, day, e)
		}
	}
}
