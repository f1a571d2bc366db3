package state_test

import (
	"math/rand"
	"slices"
	"testing"

	"duodecimo/api"
	"duodecimo/state"
)

// P3.7: what was printed in any order agrees with it, and nothing else is told than what is so in it.
func TestTrueOrders(t *testing.T) {
	r := rand.New(rand.NewSource(37))
	for range 200 {
		f, o, at := printed(r, 1+r.Intn(api.MaxStLoci), 1+r.Intn(api.MaxStCopies), 1+r.Intn(8))
		if list := oddIn(t, f, o); len(list) != 0 {
			t.Errorf("Odd(%v, %v) = %v", f, o, list)
		}
		a := tell(t, f)
		if a.down != api.OK || len(a.wrong) != 0 || len(a.mistaken) != 0 {
			t.Errorf("%v: First: %d, Wrong = %v, Mistaken = %v", f, a.down, a.wrong, a.mistaken)
			continue
		}
		last := stateAfter(o, len(o.Loci))
		for l := range f.Loci {
			if n := a.reading[l]; n != un && n != o.First[l] {
				t.Errorf("Reading(%v, %d) = %d", f, l, n)
			}
			if n := a.last[l]; n != un && n != last[l] {
				t.Errorf("Last(%v) = %v", f, a.last)
			}
			for m := range f.Loci {
				n, i, j := a.before[l][m], slices.Index(o.Loci, l), slices.Index(o.Loci, m)
				if n == api.StEarlier && i >= j || n == api.StLater && i <= j {
					t.Errorf("Before(%v, %d, %d) = %d", f, l, m, n)
				}
			}
		}
		for c := range f.Copies {
			if s := a.after[c]; at[c] < s.Lo || at[c] > s.Hi {
				t.Errorf("After(%v, %d) = %v, but it was after %d", f, c, s, at[c])
			}
			for d := range f.Copies {
				n := a.earlier[c][d]
				if n == api.StEarlier && at[c] >= at[d] || n == api.StLater && at[c] <= at[d] {
					t.Errorf("Earlier(%v, %d, %d) = %d", f, c, d, n)
				}
			}
		}
	}
}

// P3.9: the copies of Proof contradict each other; without any one of them they do not, and no fewer do.
func TestProved(t *testing.T) {
	for i, f := range formes() {
		proof := answers(t)[i].proof
		if len(proof) == 0 {
			continue
		}
		if agrees(t, onlyWith(f, proof)) {
			t.Errorf("%v: %v agree", f, proof)
		}
		for _, some := range subsets(len(f.Copies)) {
			if n := len(some); n > 0 && n < len(proof) && !agrees(t, onlyWith(f, some)) {
				t.Errorf("%v: %v contradict each other, not just %v", f, some, proof)
			}
		}
	}
}

// P3.10: without the copies of Wrong some order agrees, without fewer none does; likewise with Mistaken, which are no fewer.
func TestFewest(t *testing.T) {
	for i, f := range formes() {
		a := answers(t)[i]
		if len(a.wrong) < len(f.Copies) && !agrees(t, without(f, a.wrong)) {
			t.Errorf("%v does not agree without %v", f, a.wrong)
		}
		for _, some := range subsets(len(f.Copies)) {
			if len(some) < len(a.wrong) && agrees(t, without(f, some)) {
				t.Errorf("%v agrees without %v", f, some)
			}
		}
		if !agrees(t, unread(f, a.mistaken)) || len(a.mistaken) < len(a.wrong) {
			t.Errorf("%v: Mistaken = %v, Wrong = %v", f, a.mistaken, a.wrong)
		}
		for j := range a.mistaken {
			if agrees(t, unread(f, slices.Delete(slices.Clone(a.mistaken), j, j+1))) {
				t.Errorf("%v agrees without fewer than %v", f, a.mistaken)
			}
		}
	}
}

// surer checks that in more, with one more copy or reading than less, no order is added, and that what was sure is sure.
func surer(t *testing.T, f api.StForme, more, less told) {
	t.Helper()
	if more.many > less.many {
		t.Errorf("%v: %d orders agree, with less known %d", f, more.many, less.many)
	}
	if more.many == 0 {
		return
	}
	lost := func(was, is int) bool { return was != 0 && was != is }
	for l := range f.Loci {
		if lost(less.reading[l], more.reading[l]) || lost(less.last[l], more.last[l]) {
			t.Errorf("%v: Reading %v, was %v; Last %v, was %v", f, more.reading, less.reading, more.last, less.last)
		}
		for m := range f.Loci {
			if lost(less.before[l][m], more.before[l][m]) {
				t.Errorf("%v: Before %v, was %v", f, more.before, less.before)
			}
		}
	}
	for c, s := range less.after {
		if more.after[c].Lo < s.Lo || more.after[c].Hi > s.Hi {
			t.Errorf("%v: After %v, was %v", f, more.after, less.after)
		}
		for d := range less.after {
			if lost(less.earlier[c][d], more.earlier[c][d]) {
				t.Errorf("%v: Earlier %v, was %v", f, more.earlier, less.earlier)
			}
		}
	}
}

// P3.11: with one more copy, or one more reading, no order is added, and what was sure is sure.
func TestOneMore(t *testing.T) {
	r := rand.New(rand.NewSource(311))
	for i, f := range formes() {
		c, l := r.Intn(len(f.Copies)), r.Intn(len(f.Loci))
		g := unread(f, []api.StReading{{Copy: c, Locus: l}})
		if n := len(f.Copies); n > 1 && i%2 == 0 {
			g = without(f, []int{n - 1})
		}
		surer(t, f, answers(t)[i], tell(t, g))
		for range 50 {
			o := someOrder(r, f)
			if len(oddIn(t, f, o)) == 0 && len(oddIn(t, g, o)) > 0 {
				t.Errorf("%v agrees with %v, but not with %v", o, f, g)
			}
		}
	}
}

// exchanged is a forme, and an order of it, in which both readings of a locus are exchanged.
func exchanged(f api.StForme, o api.StOrder, l int) (api.StForme, api.StOrder) {
	f = cloned(f)
	f.Loci[l].First = other(f.Loci[l].First)
	for _, c := range f.Copies {
		c.Shows[l] = other(c.Shows[l])
	}
	o.First = slices.Clone(o.First)
	o.First[l] = other(o.First[l])
	return f, o
}

// P3.12: if both readings of a locus are exchanged, everywhere, all is the same with them exchanged.
func TestExchanged(t *testing.T) {
	r := rand.New(rand.NewSource(312))
	for i, f := range formes() {
		a := answers(t)[i]
		l := r.Intn(len(f.Loci))
		o := someOrder(r, f)
		g, p := exchanged(f, o, l)
		if !slices.Equal(oddIn(t, f, o), oddIn(t, g, p)) {
			t.Errorf("Odd of %v, and with %d exchanged: %v, %v", f, l, oddIn(t, f, o), oddIn(t, g, p))
		}
		b := tell(t, g)
		if a.many > 0 {
			b.reading[l], b.last[l] = other(b.reading[l]), other(b.last[l])
			if _, back := exchanged(g, b.first, l); len(oddIn(t, f, back)) != 0 {
				t.Errorf("%v with %d exchanged agrees with %v", f, l, b.first)
			}
		}
		sameOfLoci(t, f, a, b)
		sameOfCopies(t, f, a, b)
		if !slices.Equal(a.proof, b.proof) || !slices.Equal(a.wrong, b.wrong) || !slices.Equal(a.mistaken, b.mistaken) {
			t.Errorf("%v with %d exchanged: Proof %v, %v; Wrong %v, %v; Mistaken %v, %v", f, l, a.proof, b.proof, a.wrong, b.wrong, a.mistaken, b.mistaken)
		}
	}
}

// sameOfLoci checks that two formes with the same loci are told to be the same, as for their loci.
func sameOfLoci(t *testing.T, f api.StForme, a, b told) {
	t.Helper()
	if a.many != b.many || a.down != b.down || !slices.Equal(a.reading, b.reading) || !slices.Equal(a.last, b.last) || !slices.EqualFunc(a.before, b.before, slices.Equal) {
		t.Errorf("%v: %v, but also %v", f, a, b)
	}
}

// sameOfCopies checks that the copies of a are told to be the same in b.
func sameOfCopies(t *testing.T, f api.StForme, a, b told) {
	t.Helper()
	for c, s := range a.after {
		if s != b.after[c] || !slices.Equal(a.earlier[c], b.earlier[c][:len(a.after)]) {
			t.Errorf("%v: copy %d is %v, %v, but also %v, %v", f, c, s, a.earlier[c], b.after[c], b.earlier[c])
		}
	}
}

// P3.12: if no First is known, each order that agrees does so also backwards; nothing is sure of Before, and no Reading is.
func TestTurned(t *testing.T) {
	tried := 0
	for i, f := range formes() {
		a := answers(t)[i]
		known := slices.ContainsFunc(f.Loci, func(l api.StLocus) bool { return l.First != un })
		if known || a.many == 0 {
			continue
		}
		tried++
		for _, o := range agreeingOf(f) {
			back := order(stateAfter(o, len(o.Loci)), o.Loci...)
			back.Loci = slices.Clone(o.Loci)
			slices.Reverse(back.Loci)
			if list := oddIn(t, f, back); len(list) != 0 {
				t.Errorf("Odd(%v, %v) = %v", f, back, list)
			}
		}
		for l := range f.Loci {
			if a.reading[l] != un || a.last[l] != un || slices.ContainsFunc(a.before[l], func(n int) bool { return n != api.StEither }) {
				t.Errorf("%v: Reading %v, Last %v, Before %v", f, a.reading, a.last, a.before)
			}
		}
	}
	if tried < 20 {
		t.Errorf("of just %d formes no First is known", tried)
	}
}

// follows checks that of what comes before each other the one behind b comes behind what is before b.
func follows(t *testing.T, f api.StForme, which [][]int) {
	t.Helper()
	for a := range which {
		for b := range which {
			if n := which[b][a]; which[a][b] == api.StEarlier && n != api.StLater || which[a][b] == api.StEither && n != api.StEither {
				t.Errorf("%v: %d and %d are %d, and %d", f, a, b, which[a][b], n)
			}
			for c := range which {
				if which[a][b] == api.StEarlier && which[b][c] == api.StEarlier && which[a][c] != api.StEarlier {
					t.Errorf("%v: %d is before %d, that before %d", f, a, b, c)
				}
			}
		}
	}
}

// P3.13: what is before something is before all behind it; a copy that is earlier can be printed after fewer corrections.
func TestConsistent(t *testing.T) {
	chains := 0
	for i, f := range formes() {
		a := answers(t)[i]
		follows(t, f, a.before)
		follows(t, f, a.earlier)
		for c := range f.Copies {
			for d := range f.Copies {
				if a.earlier[c][d] != api.StEarlier {
					continue
				}
				chains++
				if a.after[c].Lo >= a.after[d].Lo || a.after[c].Hi >= a.after[d].Hi {
					t.Errorf("%v: %d is earlier than %d, After %v", f, c, d, a.after)
				}
			}
			if a.earlier[c][c] != api.StEither {
				t.Errorf("Earlier(%v, %d, %d) = %d", f, c, c, a.earlier[c][c])
			}
		}
	}
	if chains < 100 {
		t.Errorf("just %d copies are earlier than another one", chains)
	}
}

// P3.14: a copy that is there twice, with another name, says nothing new.
func TestTwice(t *testing.T) {
	r := rand.New(rand.NewSource(314))
	for i, f := range formes() {
		if len(f.Copies) == api.MaxStCopies {
			continue
		}
		a := answers(t)[i]
		c := r.Intn(len(f.Copies))
		g := cloned(f)
		g.Copies = append(g.Copies, showing("again", f.Copies[c].Shows...))
		b := tell(t, g)
		sameOfLoci(t, f, a, b)
		sameOfCopies(t, f, a, b)
		n := len(f.Copies)
		if !sameOrder(a.first, b.first) || !slices.Equal(a.proof, b.proof) || a.after[c] != b.after[n] || !slices.Equal(b.earlier[c], b.earlier[n]) {
			t.Errorf("%v with %d twice: %v, %v", f, c, a, b)
		}
		if len(b.wrong) < len(a.wrong) || len(b.mistaken) < len(a.mistaken) {
			t.Errorf("%v with %d twice: Wrong = %v, Mistaken = %v", f, c, b.wrong, b.mistaken)
		}
	}
}

// P3.14: in any other order of copies as many orders agree, and each copy is told of as before.
func TestShuffled(t *testing.T) {
	r := rand.New(rand.NewSource(3140))
	for i, f := range formes() {
		a := answers(t)[i]
		at := r.Perm(len(f.Copies))
		b := tell(t, onlyWith(f, at))
		sameOfLoci(t, f, a, b)
		if !sameOrder(a.first, b.first) || len(a.proof) != len(b.proof) || len(a.wrong) != len(b.wrong) || len(a.mistaken) != len(b.mistaken) {
			t.Errorf("%v in the order %v: %v, %v", f, at, a, b)
		}
		for j, c := range at {
			if a.after[c] != b.after[j] {
				t.Errorf("%v in the order %v: After %v, %v", f, at, a.after, b.after)
			}
			for k, d := range at {
				if a.earlier[c][d] != b.earlier[j][k] {
					t.Errorf("%v in the order %v: Earlier %v, %v", f, at, a.earlier, b.earlier)
				}
			}
		}
	}
}

// P3.3, P3.4, P3.6: the least forme, and the one with the most orders; four copies that contradict each other only all together.
func TestLeastAndMost(t *testing.T) {
	for _, shows := range []int{un, rA, rB} {
		f := formeOf([]int{un}, []int{shows})
		if a := tell(t, f); a.many != 2 || a.after[0] != span(0, 1) {
			t.Errorf("%v: %d orders, After %v", f, a.many, a.after)
		}
	}
	most := formes()[len(formes())-1]
	a := tell(t, most)
	if a.many != 3840 || a.after[7] != span(0, 5) || a.earlier[0][7] != api.StEither {
		t.Errorf("%v: %v", most, a)
	}
	pairs := formeOf([]int{un, un}, []int{rA, rA}, []int{rA, rB}, []int{rB, rA}, []int{rB, rB})
	if proof, e := state.Proof(pairs); !slices.Equal(proof, []int{0, 1, 2, 3}) || e != api.OK {
		t.Errorf("Proof = %v, %d", proof, e)
	}
}
