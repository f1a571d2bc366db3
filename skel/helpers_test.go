package skel_test

import (
	"fmt"
	"math"
	"math/rand"
	"slices"
	"sync"
	"testing"

	"duodecimo/api"
	"duodecimo/skel"
)

// Short names of looks.
const (
	un = api.SkUnknown
	wh = api.SkWhole
	cr = api.SkCracked
)

func forme(name string, set, on, off int) api.SkForme {
	return api.SkForme{Name: name, Set: set, On: on, Off: off}
}

func sight(forme, kind, look int) api.SkSight {
	return api.SkSight{Forme: forme, Type: kind, Look: look}
}

func span(lo, hi int) api.Span { return api.Span{Lo: lo, Hi: hi} }

// example is J of the chapter's examples, with further sightings.
func example(further ...api.SkSight) api.SkJob {
	return api.SkJob{
		Types:  []string{"e", "f"},
		Formes: []api.SkForme{forme("p", 0, 1, 3), forme("q", 2, 4, 5), forme("r", 4, 6, 8), forme("s", 6, 9, 10), forme("t", 9, 11, 12)},
		Sights: append([]api.SkSight{sight(0, 0, wh), sight(2, 0, cr), sight(1, 1, un), sight(4, 1, wh)}, further...),
	}
}

// contradictory is K of the chapter's examples.
func contradictory() api.SkJob { return example(sight(1, 0, un)) }

// jobOf is a job of so many types, of formes with these days, and sightings.
func jobOf(types int, days [][3]int, sights ...api.SkSight) api.SkJob {
	j := api.SkJob{Sights: sights}
	for i := range types {
		j.Types = append(j.Types, fmt.Sprint("t", i))
	}
	for i, d := range days {
		j.Formes = append(j.Formes, forme(fmt.Sprint("f", i), d[0], d[1], d[2]))
	}
	return j
}

// cloned is a job that shares no memory with the other one.
func cloned(j api.SkJob) api.SkJob {
	return api.SkJob{Types: slices.Clone(j.Types), Formes: slices.Clone(j.Formes), Sights: slices.Clone(j.Sights)}
}

// same reports whether two jobs are the same.
func same(j, k api.SkJob) bool {
	return slices.Equal(j.Types, k.Types) && slices.Equal(j.Formes, k.Formes) && slices.Equal(j.Sights, k.Sights)
}

// standsOn reports whether a forme stands on a day.
func standsOn(f api.SkForme, day int) bool { return day >= f.Set && day <= f.Off }

// printedOn reports whether a forme is printed on a day.
func printedOn(f api.SkForme, day int) bool { return day >= f.On && day <= f.Off }

// onDay are the formes of which something is so on a day.
func onDay(j api.SkJob, day int, isSo func(api.SkForme, int) bool) []int {
	var list []int
	for i, f := range j.Formes {
		if isSo(f, day) {
			list = append(list, i)
		}
	}
	return list
}

// table has a truth for each two formes.
type table [api.MaxSkFormes + 1][api.MaxSkFormes + 1]bool

// togetherOf says of which two formes something is so on some day, day by day.
func togetherOf(j api.SkJob, isSo func(api.SkForme, int) bool) table {
	var t table
	for day := range api.MaxSkDay + 1 {
		on := onDay(j, day, isSo)
		for _, a := range on {
			for _, b := range on {
				t[a][b] = t[a][b] || a != b
			}
		}
	}
	return t
}

// joinedOf says which two formes are of the same group.
func joinedOf(j api.SkJob) table {
	var t table
	for _, s := range j.Sights {
		for _, u := range j.Sights {
			t[s.Forme][u.Forme] = t[s.Forme][u.Forme] || s.Type == u.Type
		}
	}
	for range j.Formes {
		for a := range j.Formes {
			t[a][a] = true
			for b := range j.Formes {
				for c := range j.Formes {
					t[a][b] = t[a][b] || t[a][c] && t[c][b]
				}
			}
		}
	}
	return t
}

// clashesOf are all two formes that clash, in their order.
func clashesOf(j api.SkJob) [][2]int {
	stand, joined := togetherOf(j, standsOn), joinedOf(j)
	var list [][2]int
	for a := range j.Formes {
		for b := range a {
			if stand[a][b] && joined[a][b] {
				list = append(list, [2]int{b, a})
			}
		}
	}
	slices.SortFunc(list, func(x, y [2]int) int { return slices.Compare(x[:], y[:]) })
	return list
}

// partitions are, by their length, all lists of numbers of which each one is in the list before, or is the least one that is not, in their order.
var partitions = sync.OnceValue(func() [][][]int {
	all := [][][]int{{{}}}
	for n := range api.MaxSkFormes + 1 {
		var longer [][]int
		for _, l := range all[n] {
			for number := range howMany(l) + 1 {
				longer = append(longer, append(slices.Clone(l), number))
			}
		}
		all = append(all, longer)
	}
	return all
})

// howMany is how many different numbers there are.
func howMany(l []int) int {
	met := map[int]bool{}
	for _, n := range l {
		met[n] = true
	}
	return len(met)
}

// does reports whether formes that must have the same number have it, and those that must not do not.
func does(l []int, same, apart table) bool {
	for b := range l {
		for a := range b {
			if l[a] == l[b] && apart[a][b] || l[a] != l[b] && same[a][b] {
				return false
			}
		}
	}
	return true
}

// fewestOf are all lists of numbers that do of which there are fewest, in their order.
func fewestOf(formes int, same, apart table) [][]int {
	var list [][]int
	for _, l := range partitions()[formes] {
		if !does(l, same, apart) {
			continue
		}
		if len(list) > 0 && slices.Max(l) < slices.Max(list[0]) {
			list = nil
		}
		if len(list) == 0 || slices.Max(l) == slices.Max(list[0]) {
			list = append(list, l)
		}
	}
	return list
}

// skeletonsOf are all skeletons of a job of which there are fewest: none, if formes clash.
func skeletonsOf(j api.SkJob) [][]int {
	return fewestOf(len(j.Formes), joinedOf(j), togetherOf(j, standsOn))
}

// pressesOf are all presses of a job of which there are fewest.
func pressesOf(j api.SkJob) [][]int {
	return fewestOf(len(j.Formes), table{}, togetherOf(j, printedOn))
}

// cracksOf are the days on which a type can have cracked, by trying all of them against all days of each forme.
func cracksOf(j api.SkJob, kind int) []int {
	var list []int
	for crack := range api.MaxSkDay + 2 {
		can := true
		for _, s := range j.Sights {
			if s.Type != kind || s.Look == un {
				continue
			}
			shows := false
			for day := range api.MaxSkDay + 1 {
				shows = shows || printedOn(j.Formes[s.Forme], day) && (s.Look == cr) == (day >= crack)
			}
			can = can && shows
		}
		if can {
			list = append(list, crack)
		}
	}
	return list
}

// agreeing reports whether all sightings of a job agree.
func agreeing(j api.SkJob) bool {
	for kind := range j.Types {
		if len(cracksOf(j, kind)) == 0 {
			return false
		}
	}
	return len(clashesOf(j)) == 0
}

// counted are all lists of n digits below base, counted up.
func counted(base, n int) [][]int {
	list := [][]int{{}}
	for range n {
		var longer [][]int
		for _, l := range list {
			for digit := range base {
				longer = append(longer, append(slices.Clone(l), digit))
			}
		}
		list = longer
	}
	return list
}

// subsets are all lists of numbers below n, ascending: the shortest come first, of those that are as long the first ones compared number by number.
func subsets(n int) [][]int {
	var list [][]int
	for bits := range 1 << n {
		var l []int
		for i := range n {
			if bits>>i&1 == 1 {
				l = append(l, i)
			}
		}
		list = append(list, l)
	}
	slices.SortFunc(list, func(a, b []int) int {
		if len(a) != len(b) {
			return len(a) - len(b)
		}
		return slices.Compare(a, b)
	})
	return list
}

// without is a job without some sightings.
func without(j api.SkJob, some []int) api.SkJob {
	j = cloned(j)
	for _, i := range slices.Backward(some) {
		j.Sights = slices.Delete(j.Sights, i, i+1)
	}
	return j
}

// only is a job with just some formes, in this order, and what is seen in them.
func only(j api.SkJob, some []int) api.SkJob {
	k := api.SkJob{Types: j.Types}
	for _, i := range some {
		k.Formes = append(k.Formes, j.Formes[i])
	}
	for _, s := range j.Sights {
		if i := slices.Index(some, s.Forme); i >= 0 {
			k.Sights = append(k.Sights, sight(i, s.Type, s.Look))
		}
	}
	return k
}

// with is a job with one more forme, which shows some types.
func with(j api.SkJob, f api.SkForme, types []int) api.SkJob {
	j = cloned(j)
	j.Formes = append(j.Formes, f)
	for _, kind := range types {
		j.Sights = append(j.Sights, sight(len(j.Formes)-1, kind, un))
	}
	return j
}

// later is a job all of whose days are later by as many.
func later(j api.SkJob, days int) api.SkJob {
	j = cloned(j)
	for i := range j.Formes {
		j.Formes[i].Set += days
		j.Formes[i].On += days
		j.Formes[i].Off += days
	}
	return j
}

// lastDay is the last day on which a forme of a job stands.
func lastDay(j api.SkJob) int {
	last := 0
	for _, f := range j.Formes {
		last = max(last, f.Off)
	}
	return last
}

// someForme is a forme that was set within so many days, or, within none, one of a row, each of which stands with the next one.
func someForme(r *rand.Rand, i, wide int) api.SkForme {
	name := fmt.Sprint("f", i)
	if wide == 0 {
		return forme(name, 7*i, 7*i+r.Intn(7), 7*i+7)
	}
	set := r.Intn(wide)
	on := min(set+r.Intn(3), api.MaxSkDay)
	return forme(name, set, on, min(on+r.Intn(8), api.MaxSkDay))
}

// printed is a job of so many types and formes that were set within so many days, or in a row, and at most so many sightings, of formes that were printed in some skeletons no two of which have a type in common; the skeleton of each forme; and on which day each type cracked.
func printed(r *rand.Rand, types, formes, wide, sights int) (j api.SkJob, used, cracked []int) {
	var of []int // of which skeleton each type is
	for i := range types {
		j.Types = append(j.Types, fmt.Sprint("t", i))
		of = append(of, r.Intn(3))
		cracked = append(cracked, r.Intn(wide+16)%(api.MaxSkDay+2))
	}
	for i := range formes {
		j.Formes = append(j.Formes, someForme(r, i, wide))
		used = append(used, freeSkeleton(r, j, used))
	}
	var seen []api.SkSight
	for i, f := range j.Formes {
		for kind := range types {
			if of[kind] == used[i] {
				seen = append(seen, sight(i, kind, lookOf(r, f, cracked[kind])))
			}
		}
	}
	r.Shuffle(len(seen), func(a, b int) { seen[a], seen[b] = seen[b], seen[a] })
	j.Sights = seen[:min(sights, len(seen))]
	return j, used, cracked
}

// freeSkeleton is a skeleton that the last forme can have, one of those that have types if that can be.
func freeSkeleton(r *rand.Rand, j api.SkJob, used []int) int {
	stand := togetherOf(j, standsOn)
	for _, skeleton := range append(r.Perm(3), 3, 4, 5, 6, 7) {
		free := true
		for i, u := range used {
			free = free && !(u == skeleton && stand[i][len(used)])
		}
		if free {
			return skeleton
		}
	}
	panic("no skeleton is free")
}

// lookOf is how a type that cracked on some day looks in a forme, so far as it is said.
func lookOf(r *rand.Rand, f api.SkForme, cracked int) int {
	looks := []int{un}
	for day := f.On; day <= f.Off; day++ {
		if day < cracked {
			looks = append(looks, wh)
		} else {
			looks = append(looks, cr)
		}
	}
	return looks[r.Intn(len(looks))]
}

// mistaken is a job with some more or other sightings, which can be wrong.
func mistaken(r *rand.Rand, j api.SkJob, many int) api.SkJob {
	j = cloned(j)
	if len(j.Types) == 0 {
		return j
	}
	for range many {
		s := sight(r.Intn(len(j.Formes)), r.Intn(len(j.Types)), r.Intn(3))
		at := slices.IndexFunc(j.Sights, func(o api.SkSight) bool { return o.Forme == s.Forme && o.Type == s.Type })
		switch {
		case at >= 0:
			j.Sights[at] = s
		case len(j.Sights) < api.MaxSkSights:
			j.Sights = append(j.Sights, s)
		}
	}
	return j
}

// specialJobs are jobs of few formes and sightings, and of many.
func specialJobs() []api.SkJob {
	day := [3]int{5, 5, 5}
	crowd := [][3]int{day, day, day, day, day, day, day}
	var rows [][3]int // one behind the other
	for i := range api.MaxSkFormes {
		rows = append(rows, [3]int{8 * i, 8*i + 2, 8*i + 5})
	}
	var most []api.SkSight // two types in all formes but one
	for i := range 6 {
		most = append(most, sight(i, 0, un), sight(i, 5, un))
	}
	last := [3]int{api.MaxSkDay, api.MaxSkDay, api.MaxSkDay}
	return []api.SkJob{
		example(), contradictory(),
		jobOf(0, [][3]int{{}}), jobOf(0, [][3]int{last}), jobOf(0, [][3]int{{0, 0, 60}}),
		jobOf(1, [][3]int{{}}, sight(0, 0, wh)), jobOf(1, [][3]int{{}}, sight(0, 0, cr)), jobOf(1, [][3]int{last}, sight(0, 0, wh)),
		jobOf(0, crowd), jobOf(6, crowd), jobOf(6, crowd, most...),
		jobOf(0, rows), jobOf(6, rows, most...), jobOf(6, rows, sight(0, 5, cr), sight(6, 5, wh)),
		// The third forme is joined with the first one, by the second one alone.
		jobOf(2, [][3]int{{0, 3, 9}, {20, 21, 22}, {9, 10, 11}}, sight(0, 0, un), sight(1, 0, un), sight(1, 1, un), sight(2, 1, un)),
		// Formes that do not stand together, but for one more day.
		jobOf(1, [][3]int{{0, 1, 5}, {6, 6, 7}, {5, 8, 9}}, sight(0, 0, un), sight(1, 0, wh)),
		// An odd ring of groups needs three skeletons, though just two formes stand on a day.
		jobOf(2, [][3]int{{0, 0, 4}, {4, 4, 8}, {8, 8, 12}, {12, 12, 16}, {16, 16, 20}, {20, 20, 24}}, sight(0, 0, un), sight(3, 0, un), sight(1, 1, un), sight(5, 1, un)),
	}
}

// jobs are jobs without an error, always the same ones.
var jobs = sync.OnceValue(func() []api.SkJob {
	r := rand.New(rand.NewSource(5))
	list := specialJobs()
	for i := range 320 {
		types, formes := r.Intn(api.MaxSkTypes+1), 1+r.Intn(api.MaxSkFormes)
		sights := r.Intn(api.MaxSkSights + 1)
		if i%6 == 0 {
			types, formes, sights = api.MaxSkTypes, api.MaxSkFormes, api.MaxSkSights
		}
		j, _, _ := printed(r, types, formes, []int{8, 20, 35, 52, 0}[i%5], sights)
		list = append(list, mistaken(r, j, []int{0, 0, 1, 2, 12}[r.Intn(5)]))
	}
	return list
})

// told is what all functions but Check and Room say of a job.
type told struct {
	groups    []int
	a, b      int
	none      api.Errno // of Clash
	cracks    []api.Span
	zeros     []api.Errno // of Crack
	doubt     []int
	down      api.Errno // of Fewest, Proof and Share
	skeletons []int
	many      int
	proof     []int
	share     [][]int
	presses   []int
	needed    int
	day       int
	standing  []int
}

// tell asks all functions but Check and Room of a job without an error.
func tell(t *testing.T, j api.SkJob) told {
	t.Helper()
	var a told
	expect := func(name string, e, want api.Errno) {
		if e != want {
			t.Fatalf("%s of %v: %d, not %d", name, j, e, want)
		}
	}
	var e api.Errno
	a.groups, e = skel.Groups(j)
	expect("Groups", e, api.OK)
	a.a, a.b, a.none = skel.Clash(j)
	for kind := range j.Types {
		s, e := skel.Crack(j, kind)
		a.cracks, a.zeros = append(a.cracks, s), append(a.zeros, e)
	}
	a.doubt, e = skel.Doubt(j)
	expect("Doubt", e, api.OK)
	a.skeletons, a.many, a.down = skel.Fewest(j)
	a.proof, e = skel.Proof(j)
	expect("Proof", e, a.down)
	for i := range j.Formes {
		a.share = append(a.share, nil)
		for k := range j.Formes {
			n, e := skel.Share(j, i, k)
			expect("Share", e, a.down)
			a.share[i] = append(a.share[i], n)
		}
	}
	a.presses, a.needed, e = skel.Presses(j)
	expect("Presses", e, api.OK)
	a.day, a.standing, e = skel.Standing(j)
	expect("Standing", e, api.OK)
	return a
}

// answers are what is told of each of the jobs, asked once for all tests.
func answers(t *testing.T) []told {
	t.Helper()
	all.Do(func() {
		for _, j := range jobs() {
			allAnswers = append(allAnswers, tell(t, j))
		}
	})
	return allAnswers
}

var (
	all        sync.Once
	allAnswers []told
)

// numbers are ints far beyond all limits, and about some.
func numbers(limits ...int) []int {
	list := []int{math.MinInt, math.MinInt + 1, -1, math.MaxInt - 1, math.MaxInt}
	for _, n := range limits {
		list = append(list, n-1, n, n+1)
	}
	return list
}
