package state_test

import (
	"math/rand"
	"slices"
	"testing"

	"duodecimo/api"
	"duodecimo/state"
)

// The chapter's examples of orders.
func TestExamplesOfOrders(t *testing.T) {
	f := example()
	all := []int{rA, rA, rA}
	o, many, e := state.First(f)
	if !sameOrder(o, order(all, 0, 1, 2)) || many != 2 || e != api.OK {
		t.Errorf("First = %v, %d, %d", o, many, e)
	}
	if list := oddIn(t, f, order([]int{rA, rA, rB}, 2, 0, 1)); len(list) != 0 {
		t.Errorf("Odd = %v", list)
	}
	if list := oddIn(t, f, order(all, 0, 2, 1)); !slices.Equal(list, []int{2}) {
		t.Errorf("Odd = %v", list)
	}
	a := tell(t, f)
	if !slices.Equal(a.reading, []int{rA, rA, un}) {
		t.Errorf("Reading = %v", a.reading)
	}
	if a.before[0][1] != api.StEarlier || a.before[1][0] != api.StLater || a.before[0][2] != api.StEither {
		t.Errorf("Before = %v", a.before)
	}
	if a.after[0] != span(0, 1) || a.after[3] != span(2, 3) {
		t.Errorf("After = %v", a.after)
	}
	if a.earlier[1][3] != api.StEarlier || a.earlier[2][3] != api.StEither || a.earlier[2][1] != api.StLater {
		t.Errorf("Earlier = %v", a.earlier)
	}
	if !slices.Equal(a.last, []int{rB, rB, un}) {
		t.Errorf("Last = %v", a.last)
	}
}

// The chapter's examples of copies that contradict each other.
func TestExamplesOfFaults(t *testing.T) {
	a := tell(t, contradictory())
	if a.down != api.ErrDown || !slices.Equal(a.proof, []int{0, 1, 2, 4}) || !slices.Equal(a.wrong, []int{0}) {
		t.Errorf("First: %d; Proof = %v, Wrong = %v", a.down, a.proof, a.wrong)
	}
	if !slices.Equal(a.mistaken, []api.StReading{{Copy: 0, Locus: 0}}) {
		t.Errorf("Mistaken = %v", a.mistaken)
	}
}

// P3.2, P3.8: Odd names the copies that show what no state of the order has, of any order. An order agrees just if it names none: First is the first one of these, and there are as many as it says.
func TestOdd(t *testing.T) {
	for i, f := range formes() {
		if i%2 > 0 && len(f.Loci) == api.MaxStLoci {
			continue
		}
		a := answers(t)[i]
		many := 0
		for _, o := range ordersOf(f) {
			list := oddIn(t, f, o)
			if !slices.Equal(list, oddOf(f, o)) {
				t.Errorf("Odd(%v, %v) = %v, not %v", f, o, list, oddOf(f, o))
			}
			if len(list) > 0 {
				continue
			}
			if many == 0 && !sameOrder(o, a.first) {
				t.Errorf("First(%v) = %v, but %v agrees", f, a.first, o)
			}
			many++
		}
		if many != a.many {
			t.Errorf("First(%v): %d orders, not %d", f, a.many, many)
		}
	}
}

// P3.3, P3.8: First is the first order that agrees, of as many as there are, by trying all.
func TestFirst(t *testing.T) {
	down := 0
	for i, f := range formes() {
		list := agreeingOf(f)
		a := answers(t)[i]
		if len(list) == 0 {
			down++
			if a.down != api.ErrDown || a.many != 0 || !sameOrder(a.first, api.StOrder{}) {
				t.Errorf("First(%v) = %v, %d, %d", f, a.first, a.many, a.down)
			}
			continue
		}
		if a.down != api.OK || a.many != len(list) || !sameOrder(a.first, list[0]) {
			t.Errorf("First(%v) = %v, %d, %d; not %v, %d", f, a.first, a.many, a.down, list[0], len(list))
		}
	}
	if down < 20 || down > len(formes())-20 {
		t.Errorf("of %d formes out of %d no order agrees", down, len(formes()))
	}
}

// P3.3, P3.8: orders are compared by First, and only then by Loci.
func TestFirstOfOrders(t *testing.T) {
	for i, c := range []struct {
		f    api.StForme
		want api.StOrder
		many int
	}{
		{formeOf([]int{un}, []int{un}), order([]int{rA}, 0), 2},
		{formeOf([]int{rB}, []int{un}), order([]int{rB}, 0), 1},
		{formeOf([]int{un, un}, []int{rA, rB}), order([]int{rA, rA}, 1, 0), 6},
		{formeOf([]int{rB, un}, []int{rA, rA}), order([]int{rB, rA}, 0, 1), 3},
		{formeOf([]int{rB, rB}, []int{rB, rA}), order([]int{rB, rB}, 1, 0), 1},
		{formeOf([]int{un, un}, []int{rA, rB}, []int{rB, rA}), order([]int{rA, rB}, 0, 1), 4},
		{formeOf([]int{un, un}, []int{rA, rB}, []int{rB, rA}, []int{rA, rA}), order([]int{rA, rB}, 1, 0), 2},
		{formeOf([]int{un, un, un, un, un}, make([]int, 5)), order([]int{rA, rA, rA, rA, rA}, 0, 1, 2, 3, 4), 3840},
	} {
		o, many, e := state.First(c.f)
		if !sameOrder(o, c.want) || many != c.many || e != api.OK {
			t.Errorf("%d: First = %v, %d, %d", i, o, many, e)
		}
	}
}

// P3.3, P3.5: Reading, Before and Last tell just what all orders that agree have in common.
func TestReadingBeforeLast(t *testing.T) {
	for i, f := range formes() {
		list := agreeingOf(f)
		a := answers(t)[i]
		if len(list) == 0 {
			continue
		}
		for l := range f.Loci {
			firsts, lasts := map[int]bool{}, map[int]bool{}
			for _, o := range list {
				firsts[o.First[l]] = true
				lasts[stateAfter(o, len(o.Loci))[l]] = true
			}
			if want := onlyOne(firsts); a.reading[l] != want {
				t.Errorf("Reading(%v, %d) = %d, not %d", f, l, a.reading[l], want)
			}
			if want := onlyOne(lasts); a.last[l] != want {
				t.Errorf("Last(%v) = %v, not %d at %d", f, a.last, want, l)
			}
			for m := range f.Loci {
				if m == l {
					continue
				}
				which := map[int]bool{}
				for _, o := range list {
					for _, n := range o.Loci {
						if n == l || n == m {
							which[map[bool]int{true: api.StEarlier, false: api.StLater}[n == l]] = true
							break
						}
					}
				}
				if want := onlyOne(which); a.before[l][m] != want {
					t.Errorf("Before(%v, %d, %d) = %d, not %d", f, l, m, a.before[l][m], want)
				}
			}
		}
		if len(a.last) != len(f.Loci) {
			t.Errorf("Last(%v) = %v", f, a.last)
		}
	}
}

// onlyOne is the number that is in a set alone, otherwise 0.
func onlyOne(set map[int]bool) int {
	if len(set) != 1 {
		return 0
	}
	for n := range set {
		return n
	}
	return 0
}

// P3.4: After is from the least to the greatest number of corrections, over all orders; Earlier is what is so in all of them, each number of one copy below each one of the other.
func TestAfterEarlier(t *testing.T) {
	for i, f := range formes() {
		list := agreeingOf(f)
		a := answers(t)[i]
		if len(list) == 0 {
			continue
		}
		at := make([][][]int, len(f.Copies)) // by copy and order
		for c := range f.Copies {
			var all []int
			for _, o := range list {
				at[c] = append(at[c], times(o, f.Copies[c]))
				all = append(all, at[c][len(at[c])-1]...)
			}
			if want := span(slices.Min(all), slices.Max(all)); a.after[c] != want {
				t.Errorf("After(%v, %d) = %v, not %v", f, c, a.after[c], want)
			}
		}
		for c := range f.Copies {
			for d := range f.Copies {
				want := api.StEither
				if below(at[c], at[d]) {
					want = api.StEarlier
				} else if below(at[d], at[c]) {
					want = api.StLater
				}
				if a.earlier[c][d] != want {
					t.Errorf("Earlier(%v, %d, %d) = %d, not %d", f, c, d, a.earlier[c][d], want)
				}
			}
		}
	}
}

// below reports whether in each order each number of the one copy is below each one of the other.
func below(one, other [][]int) bool {
	for i, list := range one {
		for _, k := range list {
			for _, l := range other[i] {
				if k >= l {
					return false
				}
			}
		}
	}
	return true
}

// P3.6: Proof is the first of the shortest lists of copies that no order agrees with, and Wrong the first of the shortest lists without which one does, by trying all lists.
func TestProofWrong(t *testing.T) {
	proofs, wrongs := map[int]bool{}, map[int]bool{}
	for i, f := range formes() {
		odd := map[int]bool{} // the sets of copies, as bits, that do not agree with some order
		for _, o := range ordersOf(f) {
			odd[bitsOf(oddOf(f, o))] = true
		}
		a := answers(t)[i]
		wantProof, found := []int(nil), false
		for _, some := range subsets(len(f.Copies)) {
			if !anyOf(odd, func(o int) bool { return o&bitsOf(some) == 0 }) {
				wantProof, found = some, true
				break
			}
		}
		if !slices.Equal(a.proof, wantProof) || (a.none == api.OK) != found {
			t.Errorf("Proof(%v) = %v, %d; not %v", f, a.proof, a.none, wantProof)
		}
		for _, some := range subsets(len(f.Copies)) {
			if anyOf(odd, func(o int) bool { return o&^bitsOf(some) == 0 }) {
				if !slices.Equal(a.wrong, some) {
					t.Errorf("Wrong(%v) = %v, not %v", f, a.wrong, some)
				}
				break
			}
		}
		proofs[len(a.proof)], wrongs[len(a.wrong)] = true, true
	}
	for n := range 4 {
		if !proofs[n] && n != 1 || !wrongs[n] {
			t.Errorf("Proof or Wrong of no forme has %d copies", n)
		}
	}
}

// bitsOf are numbers as bits.
func bitsOf(list []int) int {
	bits := 0
	for _, n := range list {
		bits |= 1 << n
	}
	return bits
}

// anyOf reports whether something is so of any number of a set.
func anyOf(set map[int]bool, isSo func(int) bool) bool {
	for n := range set {
		if isSo(n) {
			return true
		}
	}
	return false
}

// aheadOf reports whether a list of readings has fewer of them, or as many and comes first.
func aheadOf(a, b []api.StReading) bool {
	if len(a) != len(b) {
		return len(a) < len(b)
	}
	return slices.CompareFunc(a, b, func(r, s api.StReading) int {
		return (r.Copy-s.Copy)*api.MaxStLoci + r.Locus - s.Locus
	}) < 0
}

// fewestOf are the fewest readings without which the forme's copies agree with an order.
func fewestOf(f api.StForme, o api.StOrder) []api.StReading {
	var all []api.StReading
	for i, c := range f.Copies {
		var best []api.StReading
		for k := range len(o.Loci) + 1 {
			var list []api.StReading
			for _, l := range differing(c, stateAfter(o, k)) {
				list = append(list, api.StReading{Copy: i, Locus: l})
			}
			if k == 0 || aheadOf(list, best) {
				best = list
			}
		}
		all = append(all, best...)
	}
	return all
}

// P3.6: Mistaken is the first of the shortest lists of readings without which some order agrees, order by order.
func TestMistaken(t *testing.T) {
	sizes := map[int]bool{}
	for i, f := range formes() {
		var want []api.StReading
		for j, o := range ordersOf(f) {
			if list := fewestOf(f, o); j == 0 || aheadOf(list, want) {
				want = list
			}
		}
		if list := answers(t)[i].mistaken; !slices.Equal(list, want) {
			t.Errorf("Mistaken(%v) = %v, not %v", f, list, want)
		}
		sizes[len(want)] = true
	}
	for n := range 5 {
		if !sizes[n] {
			t.Errorf("Mistaken of no forme has %d readings", n)
		}
	}
}

// P3.6, P3.10: Mistaken is the first list without which some order agrees, by trying all lists of readings of small formes.
func TestMistakenOfAll(t *testing.T) {
	r := rand.New(rand.NewSource(36))
	sizes := map[int]bool{}
	for range 60 {
		f, _, _ := printed(r, 2+r.Intn(2), 4, 4)
		f = mistaken(r, f, 12)
		var all []api.StReading
		for c, shown := range f.Copies {
			for l, reading := range shown.Shows {
				if reading != un {
					all = append(all, api.StReading{Copy: c, Locus: l})
				}
			}
		}
		got, e := state.Mistaken(f)
		for _, some := range subsets(len(all)) {
			var list []api.StReading
			for _, j := range some {
				list = append(list, all[j])
			}
			if agrees(t, unread(f, list)) {
				if !slices.Equal(got, list) || e != api.OK {
					t.Errorf("Mistaken(%v) = %v, %d, not %v", f, got, e, list)
				}
				sizes[len(list)] = true
				break
			}
		}
	}
	for n := range 3 {
		if !sizes[n] {
			t.Errorf("Mistaken of no small forme has %d readings", n)
		}
	}
}
