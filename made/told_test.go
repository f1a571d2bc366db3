package made_test

import (
	"slices"
	"testing"

	"duodecimo/api"
)

// P11.2 to P11.4: all that is told of each set is so, its best plan by going through all kinds that copies can be made whole of.
func TestTold(t *testing.T) {
	t.Parallel()
	models := inAll(len(sets()), func(i int) told { return modelled(sets()[i]) })
	for i, s := range sets() {
		if x, y := answers()[i], models[i]; differ(x, y) != "" {
			t.Errorf("%d: %v: %s: %v, not %v", i, s, differ(x, y), x, y)
		}
	}
}

// P11.3, P11.9: of sets that have not too many plans the best one is so by going through all of them.
func TestAllPlans(t *testing.T) {
	t.Parallel()
	few := slices.DeleteFunc(upTo(len(sets())), func(i int) bool { return manyPlans(sets()[i]) > 20000 })
	models := inAll(len(few), func(i int) planned { return bestOfAll(sets()[few[i]]) })
	for n, i := range few {
		if x, y := answers()[i].whole, models[n]; !alike(x, y) {
			t.Errorf("%d: %v: %v, not %v", i, sets()[i], x, y)
		}
	}
	if len(few) < 800 {
		t.Errorf("just %d sets", len(few))
	}
}

// P11.6 to P11.8: all that is told of each copy in the hand is so by going through all copies that leaves can be of.
func TestToldHand(t *testing.T) {
	t.Parallel()
	models := inAll(len(hands()), func(i int) toldHand { return modelledHand(hands()[i]) })
	for i, h := range hands() {
		if x, y := handAnswers()[i], models[i]; differHand(x, y) != "" {
			t.Errorf("%d: %v: %s: %v, not %v", i, h, differHand(x, y), x, y)
		}
	}
}

// kinds counts things of each kind.
type kinds map[string]int

// count counts a thing if it is of a kind.
func (k kinds) count(kind string, isSo bool) {
	if isSo {
		k[kind]++
	}
}

// countCopies counts what is so of copies.
func (k kinds) countCopies(s api.MaSet, x told) {
	for i, c := range s.Copies {
		of := map[int]int{}
		lost, halves := 0, 0
		for leaf, kind := range c.Has {
			of[kind]++
			share := s.Price * s.Leaves[leaf].Share
			switch kind {
			case 0:
				lost += share
				k.count("a part of a penny is lost", share%1000 > 0)
			case kindOf(c):
			default:
				halves += share
				k.count("a part of half a penny is lost", share%2000 > 0)
				k.count("just half a penny is lost", share%2000 == 1000)
			}
		}
		k.count("as many leaves of both kinds", of[1] == of[2] && of[1] > 0)
		k.count("no leaf at all", of[0] == len(c.Has))
		k.count("of the kind 1, with some of the other", of[1] > of[2] && of[2] > 0)
		k.count("of the kind 2, with some of the other", of[2] > of[1] && of[1] > 0)
		k.count("worth nothing, of a price", x.worth[i].worth == 0 && s.Price > 0)
		k.count("worth less than nothing", (2*lost+halves)/2000 > s.Price)
		k.count("worth less", x.worth[i].worth < s.Price && x.worth[i].worth > 0)
		k.count("worth all, but not whole", x.worth[i].worth == s.Price && !isWhole(c))
		for leaf, d := range x.donors[i] {
			k.count("no donor", len(d.copies) == 0)
			k.count("several donors", len(d.copies) > 1)
			k.count("donors of a leaf that is there", len(d.copies) > 0 && c.Has[leaf] == kindOf(c))
			k.count("donors of a leaf of the other kind", len(d.copies) > 0 && c.Has[leaf] == 3-kindOf(c))
		}
	}
}

// countPlan counts what is so of the best plan.
func (k kinds) countPlan(s api.MaSet, x told) {
	p, made := x.whole, map[int]int{}
	for i, c := range after(s, p.plan).Copies {
		if isWhole(c) {
			made[c.Has[0]]++
		}
		k.count("a copy becomes whole of the other kind", isWhole(c) && !isWhole(s.Copies[i]) && kindOf(c) != kindOf(s.Copies[i]))
		k.count("a whole copy stays so", isWhole(c) && isWhole(s.Copies[i]))
		for leaf, from := range p.plan[i] {
			had := s.Copies[i].Has[leaf] != 0
			k.count("a leaf is left out", had && !slices.ContainsFunc(p.plan, func(row []int) bool { return row[leaf] == i }))
			k.count("two copies exchange a leaf", from > i && p.plan[from][leaf] == i)
			k.count("a leaf goes from copy to copy, and to another one", from != none && from != i && p.plan[from][leaf] != none && p.plan[from][leaf] != from && p.plan[from][leaf] != i)
			k.count("a copy that is made whole gives a leaf", from != none && from != i && p.plan[from][leaf] != none)
			mate := s.Leaves[leaf].Mate
			k.count("a pair is moved together", mate > leaf && from != none && from != i && p.plan[i][mate] == from)
		}
	}
	k.count("largest", len(s.Leaves) == api.MaxMaLeaves && len(s.Copies) == api.MaxMaCopies)
	k.count("none whole", p.whole == 0)
	k.count("none whole, but most leaves are there", p.whole == 0 && manyPlans(s) > 1000)
	k.count("all whole", p.whole == len(s.Copies) && len(s.Copies) > 1)
	k.count("whole of both kinds", made[1] > 0 && made[2] > 0)
	k.count("whole of the kind 2 only", made[1] == 0 && made[2] > 0)
	k.count("whole, and none moved", p.whole > 0 && p.moved == 0)
	k.count("several moved", p.moved > 2)
	k.count("none cut, but some moved", p.cut == 0 && p.moved > 0 && len(groups(s)) < len(s.Leaves))
	k.count("one cut", p.cut == 1)
	k.count("several cut", p.cut > 1)
	for kind, m := range x.most {
		k.count("none of a kind at most", m.many == 0)
		k.count("some of a kind at most", m.many > 0)
		k.count("not the first leaf is the rarest", m.leaf > 0)
		k.count("several leaves are as rare", slices.ContainsFunc(upTo(len(s.Leaves))[m.leaf+1:], func(leaf int) bool {
			with := slices.DeleteFunc(slices.Clone(s.Copies), func(c api.MaCopy) bool { return c.Has[leaf] != kind+1 })
			return len(with) == m.many
		}))
	}
}

// countOthers counts what is so of plans that are as good as the best one, or nearly so.
func (k kinds) countOthers(s api.MaSet, x told) {
	best := wholeKinds(s, x.whole.plan)
	good, worse := 1, 0
	for _, group := range groups(s) {
		chosen := plannedOf(s, only(x.whole.plan, group))
		as := 0
		for _, filling := range fillings(s, best, group) {
			p := plannedOf(s, filling)
			k.count("with more moved as many are whole", p.moved > chosen.moved)
			k.count("with as many moved more are cut", p.moved == chosen.moved && p.cut > chosen.cut)
			if p.moved == chosen.moved && p.cut == chosen.cut {
				as++
			} else {
				worse++
			}
		}
		good *= as
	}
	k.count("just one plan makes these copies whole", good == 1 && worse == 0)
	k.count("just one plan is the best, of several", good == 1 && worse > 0)
	k.count("several plans are as good", good > 1)
	if len(s.Leaves) > 4 {
		return
	}
	for _, kinds := range allKinds(len(s.Copies)) {
		p, is := bestOf(s, kinds)
		if !is || p.whole != x.whole.whole || slices.Equal(kinds, best) {
			continue
		}
		k.count("other copies can be whole, with more moved", p.moved > x.whole.moved)
		k.count("other copies can be whole, with more cut", p.moved == x.whole.moved && p.cut > x.whole.cut)
		k.count("other copies can be whole, as well", p.moved == x.whole.moved && p.cut == x.whole.cut && !alike(p.plan, x.whole.plan))
	}
}

// wholeKinds are the kinds of which copies are whole after a plan, 0 for the others.
func wholeKinds(s api.MaSet, plan [][]int) []int {
	var kinds []int
	for _, c := range after(s, plan).Copies {
		kinds = append(kinds, 0)
		if isWhole(c) {
			kinds[len(kinds)-1] = kindOf(c)
		}
	}
	return kinds
}

// only is a plan of which just some leaves are left.
func only(plan [][]int, leaves []int) [][]int {
	plan = cloneRows(plan)
	for _, row := range plan {
		for k := range row {
			if !slices.Contains(leaves, k) {
				row[k] = none
			}
		}
	}
	return plan
}

// countHand counts what is so of a copy in the hand.
func (k kinds) countHand(h api.MaHand, x toldHand) {
	f, s := x.foreign.copies, x.sources
	k.count("largest", len(h.Leaves) == api.MaxMaSeen)
	k.count("no leaf is foreign", len(f) == 0 && len(h.Leaves) > 1)
	k.count("one leaf is foreign", len(f) == 1)
	k.count("all but one leaf are foreign", len(f) == len(h.Leaves)-1 && len(f) > 1)
	k.count("several lists are as short", len(x.sure.may) > len(f))
	k.count("several lists, and some must be", len(x.sure.may) > len(f) && len(x.sure.must) > 0)
	k.count("several lists, and none must be", len(x.sure.may) > 0 && len(x.sure.must) == 0)
	k.count("not the first leaf is foreign", len(f) > 0 && f[0] > 0)
	k.count("fewer copies than foreign leaves", s.many < len(f))
	k.count("as many copies as foreign leaves, and one", s.many == len(f)+1 && s.many > 2)
	k.count("sources that each leaf takes as soon as it can do not do", firstFit(h) > s.many)
	for i, some := range allParts()[len(h.Leaves)] {
		p, l := x.proof[i], x.tall[i]
		if p.e == api.OK {
			a, b := h.Leaves[p.a], h.Leaves[p.b]
			kind := a.Kind != 0 && b.Kind != 0 && a.Kind != b.Kind
			apart := a.Tall.Hi < b.Tall.Lo || b.Tall.Hi < a.Tall.Lo
			k.count("proved by kinds", kind && !apart)
			k.count("proved by how tall they are", apart && !kind)
			k.count("proved by both", apart && kind)
			k.count("proved by leaves apart by one", apart && !kind && (a.Tall.Hi+1 == b.Tall.Lo || b.Tall.Hi+1 == a.Tall.Lo))
			k.count("proved by leaves that are not the first", p.a > len(some) && p.b > p.a+1)
		}
		k.count("told all but few", p.e == api.ErrZero && len(some) == len(f) && len(f) > 1)
		k.count("told all", len(some) == len(h.Leaves))
		k.count("just one number", l.e == api.OK && l.span.Lo == l.span.Hi && len(some)+1 < len(h.Leaves))
		k.count("several numbers", l.e == api.OK && l.span.Lo < l.span.Hi && len(some)+1 < len(h.Leaves))
		k.count("as tall as can be, or as small", l.e == api.OK && (l.span.Lo == 1 || l.span.Hi == api.MaxMaTall))
	}
}

// firstFit is how many copies there are if each leaf is of the first copy of which it can be.
func firstFit(h api.MaHand) int {
	m := handModelOf(h)
	var copies [][]int
leaves:
	for k := range h.Leaves {
		for i, of := range copies {
			if with := append(slices.Clone(of), k); m.together(with) {
				copies[i] = with
				continue leaves
			}
		}
		copies = append(copies, list(k))
	}
	return len(copies)
}

// enough checks that there are enough things of each kind.
func (k kinds) enough(t *testing.T, all ...string) {
	t.Helper()
	for _, kind := range all {
		if k[kind] < 20 {
			t.Errorf("%s: %d", kind, k[kind])
		}
	}
	for kind := range k {
		if !slices.Contains(all, kind) {
			t.Errorf("%s is not asked for", kind)
		}
	}
	t.Log(k)
}

// Among the sets are enough of each kind.
func TestCases(t *testing.T) {
	t.Parallel()
	k := kinds{}
	asks(func(s api.MaSet, x told) {
		k.countCopies(s, x)
		k.countPlan(s, x)
		k.countOthers(s, x)
	})
	k.enough(t,
		"a part of a penny is lost", "a part of half a penny is lost", "just half a penny is lost", "as many leaves of both kinds", "no leaf at all", "of the kind 1, with some of the other", "of the kind 2, with some of the other", "worth nothing, of a price", "worth less than nothing", "worth less", "worth all, but not whole",
		"no donor", "several donors", "donors of a leaf that is there", "donors of a leaf of the other kind",
		"a copy becomes whole of the other kind", "a whole copy stays so", "a leaf is left out", "two copies exchange a leaf", "a leaf goes from copy to copy, and to another one", "a copy that is made whole gives a leaf", "a pair is moved together",
		"largest", "none whole", "none whole, but most leaves are there", "all whole", "whole of both kinds", "whole of the kind 2 only", "whole, and none moved", "several moved", "none cut, but some moved", "one cut", "several cut",
		"none of a kind at most", "some of a kind at most", "not the first leaf is the rarest", "several leaves are as rare",
		"just one plan makes these copies whole", "just one plan is the best, of several", "with more moved as many are whole", "with as many moved more are cut", "several plans are as good",
		"other copies can be whole, with more moved", "other copies can be whole, with more cut", "other copies can be whole, as well",
	)
}

// Among the copies in the hand are enough of each kind.
func TestHandCases(t *testing.T) {
	t.Parallel()
	k := kinds{}
	asksHand(k.countHand)
	k.enough(t,
		"largest", "no leaf is foreign", "one leaf is foreign", "all but one leaf are foreign", "several lists are as short", "several lists, and some must be", "several lists, and none must be", "not the first leaf is foreign", "fewer copies than foreign leaves", "as many copies as foreign leaves, and one", "sources that each leaf takes as soon as it can do not do",
		"proved by kinds", "proved by how tall they are", "proved by both", "proved by leaves apart by one", "proved by leaves that are not the first", "told all but few", "told all", "just one number", "several numbers", "as tall as can be, or as small",
	)
}

// The chapter's examples of S, one by one.
func TestExamples(t *testing.T) {
	s := example()
	expect(t, "Missing of p", missing(s, 0), missed{list(2, 3), 1, api.OK})
	expect(t, "Missing of r", missing(s, 2), missed{nil, 2, api.OK})
	expect(t, "Donors of p, c", donors(s, 0, 2), given{list(1), api.OK})
	expect(t, "Donors of r, e", donors(s, 2, 4), given{nil, api.OK})
	expect(t, "Most of 1", most(s, 1), rarest{1, 2, api.OK})
	expect(t, "Most of 2", most(s, 2), rarest{0, 4, api.OK})
	expect(t, "Whole", whole(s), planned{rows(list(0, 0, none, none, none), list(1, 1, 1, 1, 0), list(2, 2, 2, 2, 2)), 1, 1, 0, api.OK})
	for i, want := range list(800, 945, 972) {
		expect(t, "Worth", worth(s, i), valued{want, api.OK})
	}
}

// The chapter's examples of H, one by one.
func TestHandExamples(t *testing.T) {
	h := inHand()
	expect(t, "Foreign", foreign(h), given{list(2, 3), api.OK})
	expect(t, "Sure", surely(h), sure{list(2, 3), list(2, 3), api.OK})
	expect(t, "Sources", sources(h), sourced{list(0, 0, 1, 2, 0), 3, api.OK})
	expect(t, "Proof", proof(h, nil), proved{0, 2, api.OK})
	expect(t, "Proof of 2", proof(h, list(2)), proved{1, 3, api.OK})
	expect(t, "Proof of 2, 3", proof(h, list(2, 3)), proved{e: api.ErrZero})
	expect(t, "Tall of 2, 3", tall(h, list(2, 3)), measured{span(203, 203), api.OK})
}

// P11.2: leaves that are missing, whatever kind others have; the kind is 1 if there are as many of both, also if there are none.
func TestMissing(t *testing.T) {
	for i, x := range []struct {
		has  []int
		want missed
	}{
		{list(0), missed{list(0), 1, api.OK}}, {list(1), missed{nil, 1, api.OK}}, {list(2), missed{nil, 2, api.OK}}, {list(1, 2), missed{nil, 1, api.OK}}, {list(2, 1), missed{nil, 1, api.OK}}, {list(2, 1, 2), missed{nil, 2, api.OK}}, {list(0, 2, 0), missed{list(0, 2), 2, api.OK}},
		{list(0, 0, 0), missed{list(0, 1, 2), 1, api.OK}}, {list(2, 1, 0, 0, 2, 1), missed{list(2, 3), 1, api.OK}}, {list(2, 2, 0, 0, 2, 1), missed{list(2, 3), 2, api.OK}}, {list(0, 0, 0, 0, 0, 2), missed{upTo(5), 2, api.OK}},
	} {
		expect(t, "Missing "+string(rune('a'+i)), missing(setOf(alone(len(x.has)), make([]int, len(x.has)), x.has), 1), x.want)
	}
}

// P11.2: the other copies that have the leaf in the kind of the copy, whether or not it has the leaf itself.
func TestDonors(t *testing.T) {
	s := setOf(list(1, 0, none), list(1, 1, 0), list(2, 1, 1), list(2, 2, 1), list(0, 0, 0))
	for i, copies := range [][][]int{{nil, list(1), list(1, 2)}, {list(0), list(0), list(2)}, {list(1), nil, nil}, {list(0), list(0, 1), list(1, 2)}} {
		for leaf, want := range copies {
			expect(t, "Donors of "+s.Copies[i].Name+", "+s.Leaves[leaf].Name, donors(s, i, leaf), given{want, api.OK})
		}
	}
	expect(t, "Donors of a copy alone", donors(setOf(list(none), list(1)), 0, 0), given{})
}

// P11.3: the leaf that the fewest copies have, the first one of several.
func TestMost(t *testing.T) {
	for i, x := range []struct {
		s        api.MaSet
		one, two rarest
	}{
		{setOf(list(none), list(0)), rarest{}, rarest{}}, {setOf(list(none), list(1)), rarest{1, 0, api.OK}, rarest{}}, {setOf(list(none), list(2)), rarest{}, rarest{1, 0, api.OK}}, {setOf(list(none), list(2), list(1), list(2)), rarest{1, 0, api.OK}, rarest{2, 0, api.OK}},
		{setOf(alone(2), list(1, 1), list(1, 0)), rarest{1, 1, api.OK}, rarest{}}, {setOf(alone(3), list(1, 1, 2), list(1, 2, 2), list(1, 2, 1), list(2, 2, 1)), rarest{1, 1, api.OK}, rarest{1, 0, api.OK}}, {setOf(alone(3), list(1, 1, 2), list(2, 2, 1)), rarest{1, 0, api.OK}, rarest{1, 0, api.OK}},
		{full(), rarest{1, 1, api.OK}, rarest{1, 0, api.OK}}, {setOf(alone(6), slices.Repeat(list(1), 6), slices.Repeat(list(1), 6), slices.Repeat(list(1), 6), slices.Repeat(list(1), 6)), rarest{4, 0, api.OK}, rarest{}},
	} {
		expect(t, "Most of 1 "+string(rune('a'+i)), most(x.s, 1), x.one)
		expect(t, "Most of 2 "+string(rune('a'+i)), most(x.s, 2), x.two)
	}
}

// P11.3: the most copies are made whole, with the fewest leaves moved, of these with the fewest pairs cut, and of these the first one.
func TestWhole(t *testing.T) {
	for i, x := range []struct {
		s    api.MaSet
		want planned
	}{
		// Nothing can be done, or need not be.
		{setOf(list(none), list(0)), planned{plan: rows(list(none))}}, {setOf(list(none), list(2)), planned{rows(list(0)), 1, 0, 0, api.OK}}, {setOf(alone(2), list(1, 2)), planned{plan: rows(list(0, 0))}}, {setOf(list(none), list(0), list(2), list(1)), planned{rows(list(none), list(1), list(2)), 2, 0, 0, api.OK}},
		{setOf(list(1, 0), list(1, 0), list(2, 2)), planned{rows(list(0, none), list(1, 1)), 1, 0, 0, api.OK}},
		// One leaf is moved; what is left is told, and nothing besides is moved or thrown away. A plan by which a copy has nothing left comes first.
		{setOf(alone(2), list(1, 0), list(0, 1)), planned{rows(list(none, none), list(0, 1)), 1, 1, 0, api.OK}}, {setOf(alone(3), list(1, 2, 0), list(0, 1, 1)), planned{rows(list(none, 0, none), list(0, 1, 1)), 1, 1, 0, api.OK}}, {setOf(alone(3), list(1, 1, 2), list(0, 0, 1)), planned{rows(list(0, 0, 1), list(none, none, none)), 1, 1, 0, api.OK}},
		// Two copies exchange a leaf; if it is in a pair, both pairs are cut.
		{setOf(alone(2), list(1, 2), list(2, 1)), planned{rows(list(0, 1), list(1, 0)), 2, 2, 0, api.OK}}, {setOf(list(1, 0), list(1, 2), list(2, 1)), planned{rows(list(0, 1), list(1, 0)), 2, 2, 2, api.OK}}, {setOf(list(2, none, 0), list(1, 2, 1), list(2, 1, 2)), planned{rows(list(0, 1, 0), list(1, 0, 1)), 2, 2, 0, api.OK}},
		// A copy becomes whole of the kind that it has fewer leaves of.
		{setOf(alone(5), list(1, 1, 2, 2, 2), list(0, 0, 1, 0, 0), list(0, 0, 0, 1, 0), list(0, 0, 0, 0, 1)), planned{rows(list(0, 0, 1, 2, 3), alone(5), alone(5), alone(5)), 1, 3, 0, api.OK}}, {setOf(alone(3), list(1, 2, 2), list(0, 1, 0), list(0, 0, 1)), planned{rows(list(none, 0, 0), list(none, none, none), list(0, 1, 2)), 1, 2, 0, api.OK}},
		// A pair is moved together, from the copy that has both.
		{setOf(list(1, 0, none), list(0, 0, 1), list(1, 1, 0), list(1, 1, 0)), planned{rows(list(none, none, none), list(1, 1, none), list(2, 2, 0)), 1, 1, 0, api.OK}}, {setOf(list(1, 0, 3, 2), list(0, 0, 1, 1), list(1, 0, 0, 0), list(0, 1, 0, 0), list(1, 1, 0, 0)), planned{rows(list(none, none, none, none), list(1, none, none, none), list(none, 2, none, none), list(3, 3, 0, 0)), 1, 2, 0, api.OK}},
		{setOf(list(1, 0, 3, 2), list(0, 0, 1, 1), list(1, 1, 0, 0), list(1, 1, 0, 0)), planned{rows(list(none, none, none, none), list(1, 1, none, none), list(2, 2, 0, 0)), 1, 2, 0, api.OK}}, {setOf(list(1, 0, 3, 2), list(0, 0, 1, 1), list(1, 0, 0, 0), list(1, 1, 0, 0)), planned{rows(list(none, none, none, none), list(1, none, none, none), list(2, 2, 0, 0)), 1, 2, 0, api.OK}},
		// A pair of both kinds is cut if one of it stays, and is not if both are left out.
		{setOf(list(1, 0), list(1, 2), list(0, 1)), planned{rows(list(none, 0), list(0, 1)), 1, 1, 1, api.OK}}, {setOf(list(1, 0), list(1, 2), list(1, 1)), planned{rows(list(0, 0), list(1, 1)), 1, 0, 0, api.OK}},
		{setOf(list(1, 0, none, none, none), list(2, 2, 1, 1, 1), list(1, 0, 0, 0, 0), list(0, 1, 0, 0, 0)), planned{rows(list(1, 2, 0, 0, 0), list(none, none, none, none, none), list(none, none, none, none, none)), 1, 2, 0, api.OK}},
		// Which copy is made whole is decided by the leaves that are moved, then by the pairs that are cut.
		{setOf(alone(3), list(1, 0, 0), list(0, 1, 1)), planned{rows(list(none, none, none), list(0, 1, 1)), 1, 1, 0, api.OK}}, {setOf(list(1, 0, none, none), list(1, 1, 0, 0), list(0, 1, 1, 1)), planned{rows(list(none, 0, none, none), list(0, 1, 1, 1)), 1, 1, 1, api.OK}}, {setOf(list(none, 2, 1, none), list(1, 1, 0, 0), list(0, 1, 1, 0), list(0, 0, 0, 1)), planned{rows(list(none, 0, none, none), list(0, 1, 1, 2), list(none, none, none, none)), 1, 2, 0, api.OK}},
		{setOf(list(1, 0, none), list(1, 1, 0), list(0, 1, 1)), planned{rows(list(0, 0, 1), list(none, 1, none)), 1, 1, 0, api.OK}}, {setOf(list(none, 2, 1), list(1, 1, 0), list(0, 1, 1)), planned{rows(list(none, 0, none), list(0, 1, 1)), 1, 1, 0, api.OK}},
		{full(), planned{rows(list(0, 0, 0, 0, 0, 0), list(1, 1, 1, 1, 1, 1), list(2, 2, 2, 2, 2, 2), alone(6)), 2, 0, 0, api.OK}},
	} {
		expect(t, "Whole "+string(rune('a'+i)), whole(x.s), x.want)
	}
}

// P11.4: each leaf that is missing, or of the other kind, costs for itself, rounded up; never more than all.
func TestWorth(t *testing.T) {
	for i, x := range []struct {
		price  int
		shares []int
		has    []int
		want   int
	}{
		{1000, list(100), list(1), 1000}, {1000, list(100), list(0), 900}, {1000, list(0, 0, 0), list(0, 1, 2), 1000}, {1000, list(100, 100, 99), list(1, 1, 2), 950}, {1000, list(100, 100, 99), list(1, 2, 2), 950}, {1000, list(101, 100, 99), list(1, 2, 2), 949},
		{1, list(1, 1, 1), list(0, 1, 1), 0}, {2, list(1, 0, 1), list(0, 1, 1), 1}, {2, list(1, 0, 1), list(0, 1, 0), 0}, {2, list(1, 1, 1), list(0, 0, 0), 0}, {10, list(1, 1, 1), list(0, 0, 0), 7}, {10, list(1, 1, 1), list(2, 1, 1), 9}, {0, list(1000), list(0), 0},
		{1000, list(1000, 0), list(0, 1), 0}, {1000, list(999, 0), list(0, 1), 1}, {1000, list(600, 600), list(0, 0), 0}, {1000, list(600, 600, 600, 1, 1), list(0, 2, 2, 1, 1), 0}, {1000, list(0, 1000, 1000, 0, 0), list(1, 2, 2, 1, 1), 0}, {1000, list(0, 1000, 999, 0, 0), list(1, 2, 2, 1, 1), 0}, {1000, list(0, 1000, 998, 0, 0), list(1, 2, 2, 1, 1), 1},
		{api.MaxMaPrice, slices.Repeat(list(1000), 6), make([]int, 6), 0}, {api.MaxMaPrice, slices.Repeat(list(1), 6), make([]int, 6), 994000}, {api.MaxMaPrice, list(999, 1), list(0, 2), 1000}, {999999, list(1, 1, 1), list(1, 1, 2), 999499}, {999999, list(1, 1, 1), list(1, 1, 0), 998999}, {2000, list(1, 1, 1), list(2, 1, 1), 1999}, {2001, list(1, 1, 1), list(2, 1, 1), 1999},
	} {
		s := setOf(alone(len(x.has)), x.has)
		s.Price = x.price
		for k, share := range x.shares {
			s.Leaves[k].Share = share
		}
		expect(t, "Worth "+string(rune('a'+i)), worth(s, 0), valued{x.want, api.OK})
	}
}

// P11.6, P11.7: the fewest leaves, and the fewest copies; the first ones of as few.
func TestForeign(t *testing.T) {
	any := seen(0, 1, api.MaxMaTall)
	for i, x := range []struct {
		h       api.MaHand
		foreign []int
		sure    sure
		sources sourced
	}{
		{handOf(any), nil, sure{}, sourced{list(0), 1, api.OK}}, {handOf(any, any, any), nil, sure{}, sourced{list(0, 0, 0), 1, api.OK}}, {handOf(seen(1, 5, 5), seen(2, 5, 5)), list(0), sure{nil, list(0, 1), api.OK}, sourced{list(0, 1), 2, api.OK}}, {handOf(seen(1, 5, 5), seen(2, 5, 5), any), list(0), sure{nil, list(0, 1), api.OK}, sourced{list(0, 1, 0), 2, api.OK}},
		{handOf(seen(1, 5, 5), seen(2, 5, 5), seen(2, 5, 5)), list(0), sure{list(0), list(0), api.OK}, sourced{list(0, 1, 1), 2, api.OK}}, {handOf(seen(2, 5, 5), seen(2, 5, 5), seen(1, 5, 5)), list(2), sure{list(2), list(2), api.OK}, sourced{list(0, 0, 1), 2, api.OK}}, {handOf(seen(0, 1, 2), seen(0, 3, 4), seen(0, 2, 3)), list(0), sure{nil, list(0, 1), api.OK}, sourced{list(0, 1, 0), 2, api.OK}},
		{handOf(seen(0, 1, 1), seen(0, 2, 2), seen(0, 3, 3)), list(0, 1), sure{nil, list(0, 1, 2), api.OK}, sourced{list(0, 1, 2), 3, api.OK}}, {handOf(seen(0, 1, 1), seen(0, 2, 2), seen(0, 2, 3), seen(0, 3, 3)), list(0, 1), sure{list(0), list(0, 1, 3), api.OK}, sourced{list(0, 1, 1, 2), 3, api.OK}},
		// The second leaf has to leave the first copy, so that the third one can be there.
		{handOf(seen(0, 1, 5), seen(0, 4, 8), seen(0, 1, 2), seen(0, 7, 8)), list(0, 2), sure{nil, upTo(4), api.OK}, sourced{list(0, 1, 0, 1), 2, api.OK}}, {handOf(seen(1, 5, 5), any, seen(2, 1, 1), seen(1, 9, 9), seen(2, 9, 9)), list(0, 2, 3), sure{nil, list(0, 2, 3, 4), api.OK}, sourced{list(0, 0, 1, 2, 3), 4, api.OK}},
		{handOf(seen(1, 1, 9), seen(0, 1, 1), seen(0, 9, 9), seen(2, 1, 9)), list(0, 1), sure{nil, upTo(4), api.OK}, sourced{list(0, 0, 1, 1), 2, api.OK}},
	} {
		expect(t, "Foreign "+string(rune('a'+i)), foreign(x.h), given{x.foreign, api.OK})
		expect(t, "Sure "+string(rune('a'+i)), surely(x.h), x.sure)
		expect(t, "Sources "+string(rune('a'+i)), sources(x.h), x.sources)
	}
}

// P11.8: two leaves that are not told of, by a, and then by b; no copy is left, or it is as tall as all others can be.
func TestProof(t *testing.T) {
	one := handOf(seen(0, 1, api.MaxMaTall))
	h := handOf(seen(1, 10, 20), seen(0, 15, 30), seen(2, 18, 40), seen(0, 21, 22), seen(0, 20, 20))
	for i, x := range []struct {
		h     api.MaHand
		told  []int
		proof proved
		tall  measured
	}{
		{one, nil, proved{e: api.ErrZero}, measured{span(1, api.MaxMaTall), api.OK}}, {one, list(0), proved{e: api.ErrZero}, measured{e: api.ErrZero}}, {h, nil, proved{0, 2, api.OK}, measured{e: api.ErrZero}}, {h, list(0), proved{3, 4, api.OK}, measured{e: api.ErrZero}}, {h, list(2), proved{0, 3, api.OK}, measured{e: api.ErrZero}},
		{h, list(1, 2), proved{0, 3, api.OK}, measured{e: api.ErrZero}}, {h, list(0, 3), proved{e: api.ErrZero}, measured{span(20, 20), api.OK}}, {h, list(0, 4), proved{e: api.ErrZero}, measured{span(21, 22), api.OK}}, {h, list(2, 3), proved{e: api.ErrZero}, measured{span(20, 20), api.OK}}, {h, list(2, 3, 4), proved{e: api.ErrZero}, measured{span(15, 20), api.OK}},
		{h, list(0, 1, 2), proved{3, 4, api.OK}, measured{e: api.ErrZero}}, {h, list(0, 1, 2, 3), proved{e: api.ErrZero}, measured{span(20, 20), api.OK}}, {h, list(1, 2, 3, 4), proved{e: api.ErrZero}, measured{span(10, 20), api.OK}}, {h, upTo(5), proved{e: api.ErrZero}, measured{e: api.ErrZero}}, {h, list(0, 2, 3, 4), proved{e: api.ErrZero}, measured{span(15, 30), api.OK}},
	} {
		expect(t, "Proof "+string(rune('a'+i)), proof(x.h, x.told), x.proof)
		expect(t, "Tall "+string(rune('a'+i)), tall(x.h, x.told), x.tall)
	}
}
