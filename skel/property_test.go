package skel_test

import (
	"math/rand"
	"slices"
	"testing"

	"duodecimo/api"
	"duodecimo/skel"
)

// P5.7: of formes that were printed in any skeletons, no two of which have a type in common, nothing else is told than what was there.
func TestTrueSkeletons(t *testing.T) {
	r := rand.New(rand.NewSource(57))
	seen := 0
	for range 400 {
		j, used, cracked := printed(r, r.Intn(api.MaxSkTypes+1), 1+r.Intn(api.MaxSkFormes), max(0, r.Intn(60)-8), r.Intn(api.MaxSkSights+1))
		a := tell(t, j)
		if a.none != api.ErrNone || len(a.doubt) != 0 || a.down != api.OK || a.many > howMany(used) {
			t.Errorf("%v in %v: Clash: %d, Doubt = %v, Fewest: %d, %d", j, used, a.none, a.doubt, a.many, a.down)
		}
		for kind, s := range a.cracks {
			if a.zeros[kind] != api.OK || cracked[kind] < s.Lo || cracked[kind] > s.Hi {
				t.Errorf("Crack(%v, %d) = %v, %d; it was on the day %d", j, kind, s, a.zeros[kind], cracked[kind])
			}
		}
		for f, g := range a.groups {
			if used[f] != used[g] {
				t.Errorf("%v in %v: Groups = %v", j, used, a.groups)
			}
		}
		seen += len(j.Sights)
	}
	if seen < 1000 {
		t.Errorf("just %d sightings", seen)
	}
}

// P5.8: in the skeletons of Fewest no two formes that both stand on some day have the same number, and all in which a type is seen do; each number was there before, or is the least one that was not.
func TestEnough(t *testing.T) {
	for i, j := range jobs() {
		a := answers(t)[i]
		if a.down != api.OK {
			continue
		}
		for f := range j.Formes {
			for g := range f {
				if a.skeletons[f] == a.skeletons[g] && j.Formes[f].Set <= j.Formes[g].Off && j.Formes[g].Set <= j.Formes[f].Off {
					t.Errorf("Fewest(%v) = %v, but %d and %d stand together", j, a.skeletons, g, f)
				}
			}
			if n := howMany(a.skeletons[:f]); a.skeletons[f] > n || a.skeletons[f] < 0 {
				t.Errorf("Fewest(%v) = %v", j, a.skeletons)
			}
		}
		for _, s := range j.Sights {
			for _, u := range j.Sights {
				if s.Type == u.Type && a.skeletons[s.Forme] != a.skeletons[u.Forme] {
					t.Errorf("Fewest(%v) = %v, but %d and %d show the same type", j, a.skeletons, s.Forme, u.Forme)
				}
			}
		}
		if len(a.skeletons) != len(j.Formes) || howMany(a.skeletons) != a.many {
			t.Errorf("Fewest(%v) = %v, %d", j, a.skeletons, a.many)
		}
	}
}

// P5.9: any numbers that are fewer have two formes of a group with different ones, or two that stand together with the same one.
func TestNoFewer(t *testing.T) {
	for i, j := range jobs() {
		a := answers(t)[i]
		if a.down != api.OK || a.many > 5 {
			continue
		}
		joined, stand := joinedOf(j), togetherOf(j, standsOn)
		for _, l := range counted(a.many-1, len(j.Formes)) {
			if does(l, joined, stand) {
				t.Errorf("Fewest(%v): %d, but %v does", j, a.many, l)
			}
		}
	}
}

// needs is how many skeletons some formes of a job need alone, by Fewest; none need none.
func needs(t *testing.T, j api.SkJob, some []int) int {
	t.Helper()
	if len(some) == 0 {
		return 0
	}
	_, many, e := skel.Fewest(only(j, some))
	if e != api.OK {
		t.Fatalf("Fewest(%v): %d", only(j, some), e)
	}
	return many
}

// P5.9: the formes of Proof alone need as many skeletons as all; without any one of them fewer do, and so do any fewer formes.
func TestProved(t *testing.T) {
	for i, j := range jobs() {
		a := answers(t)[i]
		if a.down != api.OK {
			continue
		}
		if needs(t, j, a.proof) != a.many {
			t.Errorf("%v: %v do not need %d skeletons", j, a.proof, a.many)
		}
		for k := range a.proof {
			if less := slices.Delete(slices.Clone(a.proof), k, k+1); needs(t, j, less) >= a.many {
				t.Errorf("%v: %v need %d skeletons", j, less, a.many)
			}
		}
		for _, some := range subsets(len(j.Formes)) {
			if len(some) < len(a.proof) && needs(t, j, some) >= a.many {
				t.Errorf("%v: %v need %d skeletons, not just %v", j, some, a.many, a.proof)
			}
		}
	}
}

// agree reports whether all sightings of a job agree, by Clash and Crack.
func agree(j api.SkJob) bool {
	for kind := range j.Types {
		if _, e := skel.Crack(j, kind); e != api.OK {
			return false
		}
	}
	_, _, e := skel.Clash(j)
	return e == api.ErrNone
}

// P5.10: without the sightings of Doubt all others agree, without any fewer they do not.
func TestFewestDoubts(t *testing.T) {
	for i, j := range jobs() {
		doubt := answers(t)[i].doubt
		if !agree(without(j, doubt)) {
			t.Errorf("Doubt(%v) = %v", j, doubt)
		}
		for _, some := range subsets(len(j.Sights)) {
			if len(some) < len(doubt) && agree(without(j, some)) {
				t.Errorf("Doubt(%v) = %v, but %v are enough", j, doubt, some)
			}
		}
	}
}

// P5.11: there are at least as many skeletons as formes that stand on the day of Standing, and just as many if nothing is seen; there are as many presses as formes that are printed on some day, at most.
func TestAsManyAsStand(t *testing.T) {
	more := 0
	for i, j := range jobs() {
		a := answers(t)[i]
		most := 0
		for day := range api.MaxSkDay + 1 {
			most = max(most, len(onDay(j, day, printedOn)))
			if len(onDay(j, day, standsOn)) > len(a.standing) {
				t.Errorf("Standing(%v) = %d, %v", j, a.day, a.standing)
			}
		}
		if a.needed != most {
			t.Errorf("Presses(%v): %d, but %d are printed on a day", j, a.needed, most)
		}
		if a.down == api.OK && a.many < len(a.standing) {
			t.Errorf("Fewest(%v): %d, but %v stand", j, a.many, a.standing)
		}
		if a.many > len(a.standing) {
			more++
		}
		j.Sights = nil
		if list, many, e := skel.Fewest(j); len(list) != len(j.Formes) || many != len(a.standing) || e != api.OK {
			t.Errorf("Fewest(%v) = %v, %d, %d, but %v stand", j, list, many, e, a.standing)
		}
	}
	if more < 10 {
		t.Errorf("just %d jobs need more skeletons than formes stand on a day", more)
	}
}

// P5.12: two formes of a group have the same skeleton, two that both stand on some day never; Share is so in the skeletons of Fewest.
func TestShared(t *testing.T) {
	for i, j := range jobs() {
		a := answers(t)[i]
		if a.down != api.OK {
			continue
		}
		stand := togetherOf(j, standsOn)
		for f := range j.Formes {
			for g := range j.Formes {
				n := a.share[f][g]
				switch {
				case n != a.share[g][f],
					a.groups[f] == a.groups[g] && n != api.SkSame,
					stand[f][g] && n != api.SkNever,
					n == api.SkSame && a.skeletons[f] != a.skeletons[g],
					n == api.SkNever && a.skeletons[f] == a.skeletons[g]:
					t.Errorf("Share(%v, %d, %d) = %d; Groups = %v, Fewest = %v", j, f, g, n, a.groups, a.skeletons)
				}
			}
		}
	}
}

// P5.13: with one more sighting no group is parted, no fewer skeletons do, a clash remains one, and no day is added to those of Crack.
func TestOneMore(t *testing.T) {
	clashed, joined, narrower := 0, 0, 0
	for i, j := range jobs() {
		more := answers(t)[i]
		for k := range j.Sights {
			less := tell(t, without(j, []int{k}))
			for f, g := range less.groups {
				if more.groups[f] != more.groups[g] {
					t.Errorf("%v: Groups %v, without %d %v", j, more.groups, k, less.groups)
				}
			}
			stand := togetherOf(j, standsOn)
			if less.none == api.OK && (more.none != api.OK || more.groups[less.a] != more.groups[less.b] || !stand[less.a][less.b]) {
				t.Errorf("%v: Clash %d, without %d: %d and %d", j, more.none, k, less.a, less.b)
			}
			if less.down != api.OK && more.down == api.OK || more.down == api.OK && more.many < less.many {
				t.Errorf("%v: Fewest %d, %d, without %d %d, %d", j, more.many, more.down, k, less.many, less.down)
			}
			for kind, s := range less.cracks {
				if more.zeros[kind] == api.ErrZero {
					continue
				}
				if less.zeros[kind] != api.OK || more.cracks[kind].Lo < s.Lo || more.cracks[kind].Hi > s.Hi {
					t.Errorf("%v: Crack %v, without %d %v", j, more.cracks, k, less.cracks)
				}
			}
			clashed += int(less.none-more.none) / int(api.ErrNone)
			if !slices.Equal(more.groups, less.groups) {
				joined++
			}
			if !slices.Equal(more.cracks, less.cracks) {
				narrower++
			}
		}
	}
	if clashed < 20 || joined < 100 || narrower < 100 {
		t.Errorf("by one more sighting %d jobs clash, %d are joined, %d have fewer days", clashed, joined, narrower)
	}
}

// P5.14: on the day of Room the further forme needs no further skeleton; on any earlier day it would clash, or need one.
func TestEarliestRoom(t *testing.T) {
	tried := 0
	for i, j := range jobs() {
		a := answers(t)[i]
		types := typesOf(j, 3*i)
		if a.down != api.OK || len(j.Formes) == api.MaxSkFormes || len(j.Sights)+len(types) > api.MaxSkSights {
			continue
		}
		for _, long := range []int{1, 4, 30} {
			first, e := skel.Room(j, types, long)
			if e == api.ErrDown {
				first = api.MaxSkDay + 2 - long
			}
			for day := range first {
				_, many, e := skel.Fewest(with(j, forme("further", day, day, day+long-1), types))
				if e == api.OK && many <= a.many {
					t.Errorf("Room(%v, %v, %d) = %d, but there is room on the day %d", j, types, long, first, day)
				}
				tried++
			}
			if e != api.OK {
				continue
			}
			if _, many, e := skel.Fewest(with(j, forme("further", first, first, first+long-1), types)); many != a.many || e != api.OK {
				t.Errorf("Room(%v, %v, %d) = %d, which needs %d, %d", j, types, long, first, many, e)
			}
		}
	}
	if tried < 500 {
		t.Errorf("just %d earlier days", tried)
	}
}

// shifted is a span of days of Crack that is later by as many: an end that no sighting says stays.
func shifted(s api.Span, days int) api.Span {
	if s.Lo > 0 {
		s.Lo += days
	}
	if s.Hi <= api.MaxSkDay {
		s.Hi += days
	}
	return s
}

// P5.15: if all days are later by as many, all is the same, Crack and Standing later by as many; so is Room, unless it is on a day that there was not.
func TestLater(t *testing.T) {
	r := rand.New(rand.NewSource(515))
	moved, rooms := 0, 0
	for i, j := range jobs() {
		left := api.MaxSkDay - lastDay(j)
		if left == 0 {
			continue
		}
		days := 1 + r.Intn(left)
		if i%2 == 0 {
			days = 1
		}
		moved++
		a, b := answers(t)[i], tell(t, later(j, days))
		for kind, s := range a.cracks {
			if a.zeros[kind] == api.OK && b.cracks[kind] != shifted(s, days) {
				t.Errorf("%v later by %d: Crack %v, was %v", j, days, b.cracks[kind], s)
			}
		}
		if b.day != a.day+days || !slices.Equal(a.zeros, b.zeros) || !slices.Equal(a.standing, b.standing) {
			t.Errorf("%v later by %d: Standing = %d, %v, was %d, %v; %v, was %v", j, days, b.day, b.standing, a.day, a.standing, b.zeros, a.zeros)
		}
		if !slices.Equal(a.groups, b.groups) || a.none != b.none || a.a != b.a || a.b != b.b || !slices.Equal(a.doubt, b.doubt) {
			t.Errorf("%v later by %d: %v, was %v", j, days, b, a)
		}
		if a.down != b.down || a.many != b.many || a.needed != b.needed || !slices.Equal(a.skeletons, b.skeletons) || !slices.Equal(a.proof, b.proof) || !slices.Equal(a.presses, b.presses) || !slices.EqualFunc(a.share, b.share, slices.Equal) {
			t.Errorf("%v later by %d: %v, was %v", j, days, b, a)
		}
		types := typesOf(j, i)
		was, e := skel.Room(j, types, 8)
		is, f := skel.Room(later(j, days), types, 8)
		if e == api.OK && was+days+7 <= api.MaxSkDay && (f != api.OK || is > was+days || is >= days && is != was+days) {
			t.Errorf("%v later by %d: Room = %d, %d, was %d", j, days, is, f, was)
		}
		if e == api.OK && is == was+days {
			rooms++
		}
	}
	if moved < 100 || rooms < 20 {
		t.Errorf("just %d jobs were moved, and %d rooms", moved, rooms)
	}
}

// P5.15: in any other order of formes and sightings as many skeletons and presses do, and the same formes have them.
func TestShuffled(t *testing.T) {
	r := rand.New(rand.NewSource(5150))
	for i, j := range jobs() {
		a := answers(t)[i]
		at := r.Perm(len(j.Formes))
		k := only(j, at)
		r.Shuffle(len(k.Sights), func(x, y int) { k.Sights[x], k.Sights[y] = k.Sights[y], k.Sights[x] })
		b := tell(t, k)
		if a.down != b.down || a.none != b.none || a.many != b.many || a.needed != b.needed || len(a.proof) != len(b.proof) || len(a.doubt) != len(b.doubt) || a.day != b.day || len(a.standing) != len(b.standing) {
			t.Errorf("%v in the order %v: %v, was %v", j, at, b, a)
		}
		if !slices.Equal(a.cracks, b.cracks) || !slices.Equal(a.zeros, b.zeros) {
			t.Errorf("%v in the order %v: Crack %v, was %v", j, at, b.cracks, a.cracks)
		}
		for x, f := range at {
			for y, g := range at {
				if (a.groups[f] == a.groups[g]) != (b.groups[x] == b.groups[y]) || a.share[f][g] != b.share[x][y] {
					t.Errorf("%v in the order %v: Groups %v, was %v; Share %v, was %v", j, at, b.groups, a.groups, b.share, a.share)
				}
			}
		}
		types := typesOf(j, i)
		was, e := skel.Room(j, types, 2)
		if is, f := skel.Room(k, types, 2); is != was || e != f {
			t.Errorf("%v in the order %v: Room = %d, %d, was %d, %d", j, at, is, f, was, e)
		}
	}
}
