package copy_test

import (
	"math/rand"
	"slices"
	"testing"

	"duodecimo/api"
	"duodecimo/copy"
	"duodecimo/quire"
)

// The chapter's examples of faults.
func TestExamplesOfFaults(t *testing.T) {
	k := example()
	want := api.CpFaults{
		Leaves: []int{4, 5, no, 0, 1, 3, 1, 6}, Lost: []int{2, 7}, Pieces: 2,
		Strange: []int{2}, Twice: []int{6}, Moved: []int{3}, All: 5,
	}
	if f := faultsOf(t, k); !sameFaults(f, want) {
		t.Errorf("Faults = %v", f)
	}
	if s := rangeOf(t, k); s != (api.Span{Lo: 5, Hi: 5}) {
		t.Errorf("Range = %v", s)
	}
	if sure, may := toldOf(t, k, copy.Lost); !slices.Equal(sure, []int{2}) || !slices.Equal(may, []int{2, 6, 7}) {
		t.Errorf("Lost = %v, %v", sure, may)
	}
	if sure, may := toldOf(t, k, copy.Loose); !slices.Equal(sure, []int{1}) || !slices.Equal(may, []int{1, 4, 5}) {
		t.Errorf("Loose = %v, %v", sure, may)
	}
	if list := boundOf(t, k); !slices.Equal(list, []int{3, 4, 5, 0, 1, 7}) {
		t.Errorf("Bound = %v", list)
	}
	if f := faultsOf(t, bindingOf(small, 0, 3, 4, 5, 6, 7)); !slices.Equal(f.Lost, []int{1, 2}) || f.Pieces != 1 || f.All != 1 {
		t.Errorf("Faults = %v", f)
	}
}

// The chapter's examples of what to ask, and of copies that were divided.
func TestExamplesOfAskAndDivided(t *testing.T) {
	k := example()
	if n, e := copy.Ask(k); n != 7 || e != api.OK {
		t.Errorf("Ask = %d, %d", n, e)
	}
	k.Items = k.Items[:7]
	if n, e := copy.Ask(k); n != 0 || e != api.ErrNone {
		t.Errorf("Ask = %d, %d", n, e)
	}
	for i, x := range []struct {
		one, other, want []int
		e                api.Errno
	}{
		{[]int{0, 1}, []int{2, 3, 4}, []int{0, 1}, api.OK},
		{[]int{0, 3}, []int{1, 2}, nil, api.OK},
		{[]int{0}, []int{0}, nil, api.ErrTwice},
	} {
		if list, e := copy.Divided(bookOf(small), items(x.one...), items(x.other...)); !slices.Equal(list, x.want) || e != x.e {
			t.Errorf("%d: Divided = %v, %d", i, list, e)
		}
	}
}

// P4.2: which runs are kept, of several choices the first one; what is strange or there twice does not part a run; which leaves are one piece.
func TestFaultsOfKinds(t *testing.T) {
	for i, x := range []struct {
		c             api.CpCase
		pieces        int
		twice, moved  []int
		strange, lost []int
	}{
		{c: caseOf(nothing)},
		{c: caseOf(nothing, item(), item()), strange: []int{0, 1}},
		{c: caseOf(single), pieces: 1, lost: []int{0}},
		{c: caseOf(small), pieces: 4, lost: upTo(8)},
		{c: caseOf(changed), pieces: 20, lost: upTo(35)},
		{c: wholeOf(changed)},
		// Two gatherings exchanged: the one that comes first is kept.
		{c: bindingOf(small, 4, 5, 6, 7, 0, 1, 2, 3), moved: []int{4}},
		{c: bindingOf(three, 8, 9, 10, 11, 4, 5, 6, 7, 0, 1, 2, 3), moved: []int{4, 8}},
		{c: bindingOf(three, 8, 9, 10, 11, 0, 1, 2, 3, 4, 5, 6, 7), moved: []int{0}},
		{c: bindingOf(three, 4, 5, 6, 7, 8, 9, 10, 11, 0, 1, 2, 3), moved: []int{8}},
		{c: bindingOf(three, 4, 5, 6, 7, 0, 1, 2, 3, 8, 9, 10, 11), moved: []int{4}},
		// A run counts once, however many leaves it has.
		{c: bindingOf(small, 3, 0, 1, 2, 4, 5, 6, 7), moved: []int{1}},
		{c: bindingOf(small, 1, 2, 3, 0, 4, 5, 6, 7), moved: []int{3}},
		{c: bindingOf(small, 3, 2, 1, 0, 4, 5, 6, 7), moved: []int{1, 2, 3}},
		// A gathering within another one parts it.
		{c: bindingOf(small, 0, 1, 4, 5, 6, 7, 2, 3), moved: []int{6}},
		{c: bindingOf(small, 4, 5, 0, 1, 2, 3, 6, 7), moved: []int{2}},
		{c: bindingOf(small, 0, 4, 1, 5, 2, 6, 3, 7), moved: []int{2, 4, 6}},
		// What is strange, or there twice, does not.
		{c: bindingOf(small, 0, no, 1, 0, 2, no, 3, 1, 4, 5, 0, 6, 7), strange: []int{1, 5}, twice: []int{3, 7, 10}},
		{c: bindingOf(three, 4, 5, 4, no, 6, 7, 0, 1, 2, 0, 3, 8, 9, 10, 11), strange: []int{3}, twice: []int{2, 9}, moved: []int{6}},
		// The item that comes first is the leaf, also in the wrong place.
		{c: bindingOf(small, 3, 0, 1, 2, 3, 4, 5, 6, 7), twice: []int{4}, moved: []int{1}},
		{c: bindingOf(small, 0, 0, 1, 2, 3, 4, 5, 6, 7, 0, 0), twice: []int{1, 9, 10}},
		// Of several choices of two runs the first one is compared by its first item, and then by its second one.
		{c: bindingOf(three, 4, 0, 8, 5, 9), pieces: 6, lost: []int{1, 2, 3, 6, 7, 10, 11}, moved: []int{1, 3}},
		{c: bindingOf(three, 9, 0, 4, 1, 5, 8), pieces: 6, lost: []int{2, 3, 6, 7, 10, 11}, moved: []int{0, 3}},
		// A run can begin behind the beginning of one that is kept, but ahead of its end.
		{c: bindingOf("A6 $0", 0, 2, 1, 4, 3), pieces: 1, lost: []int{5}, moved: []int{2}},
		{c: bindingOf("A6 $0", 0, 5, 1, 2, 3, 4), moved: []int{2}},
		// Mates are one piece; a leaf that is cancelled, or was put in, has none.
		{c: bindingOf(small, 1, 2, 4, 5, 6, 7), pieces: 1, lost: []int{0, 3}},
		{c: bindingOf(small, 2, 3, 4, 5, 6, 7), pieces: 2, lost: []int{0, 1}},
		{c: bindingOf(small, 1, 2, 4, 5, 6), pieces: 2, lost: []int{0, 3, 7}},
		{c: bindingOf("A4(=1,4+1) $0", 1, 2), pieces: 3, lost: []int{0, 3, 4}},
	} {
		f := faultsOf(t, x.c)
		all := x.pieces + len(x.twice) + len(x.moved) + len(x.strange)
		if f.Pieces != x.pieces || !slices.Equal(f.Lost, x.lost) || !slices.Equal(f.Twice, x.twice) || !slices.Equal(f.Moved, x.moved) || !slices.Equal(f.Strange, x.strange) || f.All != all {
			t.Errorf("%d: Faults = %v", i, f)
		}
		if s := rangeOf(t, x.c); s != (api.Span{Lo: all, Hi: all}) {
			t.Errorf("%d: Range = %v", i, s)
		}
	}
}

// P4.2, P4.6: of several truths with as few faults the first one is told, of several items that are as good the first one asked.
func TestFirstOfTruths(t *testing.T) {
	for i, x := range []struct {
		c     api.CpCase
		told  []int
		s     api.Span
		asked int
	}{
		{caseOf(small, item(0, 1)), []int{0}, api.Span{Lo: 4, Hi: 4}, 0},
		{caseOf(small, item(), item(2, 3)), []int{no, 2}, api.Span{Lo: 5, Hi: 5}, 1},
		// A leaf that has its mate leaves fewer pieces lost.
		{caseOf(small, item(0, 1, 2, 3), item(3)), []int{0, 3}, api.Span{Lo: 3, Hi: 5}, 0},
		{caseOf(small, item(1, 2, 3), item(0)), []int{3, 0}, api.Span{Lo: 4, Hi: 5}, 0},
		{caseOf(small, item(0, 1), item(0, 1)), []int{0, 1}, api.Span{Lo: 4, Hi: 5}, 0},
		{caseOf(small, item(0, 1), item(0, 1), item(0, 1)), []int{0, 0, 1}, api.Span{Lo: 5, Hi: 6}, 0},
		{caseOf(small, item(4, 5), item(0, 7), item(3)), []int{4, 0, 3}, api.Span{Lo: 4, Hi: 5}, 0},
		{caseOf(small, item(3), item(0, 7), item(0, 4)), []int{3, 0, 4}, api.Span{Lo: 4, Hi: 5}, 1},
		// Which of two leaves an item is says nothing if both leave as many pieces lost.
		{caseOf(small, item(0, 1), item(4, 7), item(7)), []int{0, 4, 7}, api.Span{Lo: 3, Hi: 5}, 1},
	} {
		best := fewestOf(modelsOf(x.c))
		if f := faultsOf(t, x.c); !slices.Equal(f.Leaves, best.Leaves) || !slices.Equal(f.Leaves, x.told) {
			t.Errorf("%d: Faults = %v, not %v or %v", i, f, x.told, best.Leaves)
		}
		if s := rangeOf(t, x.c); s != x.s {
			t.Errorf("%d: Range = %v", i, s)
		}
		if n, e := copy.Ask(x.c); n != x.asked || e != api.OK {
			t.Errorf("%d: Ask = %d, %d", i, n, e)
		}
	}
}

// P4.2, P4.4: Faults, Range and Bound are what the model says of all truths.
func TestFaultsRangeBound(t *testing.T) {
	for _, c := range cases() {
		models := modelsOf(c.CpCase)
		best := fewestOf(models)
		if f := faultsOf(t, c.CpCase); !sameFaults(f, best.CpFaults) {
			t.Errorf("Faults(%v) = %v, not %v", c.CpCase, f, best.CpFaults)
		}
		if s := rangeOf(t, c.CpCase); s != spanOf(models) {
			t.Errorf("Range(%v) = %v, not %v", c.CpCase, s, spanOf(models))
		}
		if list := boundOf(t, c.CpCase); !slices.Equal(list, best.bound) {
			t.Errorf("Bound(%v) = %v, not %v", c.CpCase, list, best.bound)
		}
	}
}

// P4.3: Lost and Loose are what all truths have in common, and what any of them has.
func TestLostLoose(t *testing.T) {
	doubtful := 0
	for _, c := range cases() {
		models := modelsOf(c.CpCase)
		sure, may := toldOf(t, c.CpCase, copy.Lost)
		all, some := surely(models, func(m model) []int { return m.Lost })
		if !slices.Equal(sure, all) || !slices.Equal(may, some) {
			t.Errorf("Lost(%v) = %v, %v, not %v, %v", c.CpCase, sure, may, all, some)
		}
		sure, may = toldOf(t, c.CpCase, copy.Loose)
		all, some = surely(models, func(m model) []int { return m.loose })
		if !slices.Equal(sure, all) || !slices.Equal(may, some) {
			t.Errorf("Loose(%v) = %v, %v, not %v, %v", c.CpCase, sure, may, all, some)
		}
		if len(all) < len(some) {
			doubtful++
		}
	}
	if doubtful < 50 {
		t.Errorf("of just %d cases it is doubtful what is loose", doubtful)
	}
}

// P4.5: Divided is each leaf of one whose mate is in other, by going through all pairs of items.
func TestDivided(t *testing.T) {
	r := rand.New(rand.NewSource(45))
	twice, divided := 0, 0
	for range 500 {
		b := bookOf(formulas()[r.Intn(len(formulas()))])
		mates := matesOf(b)
		var told [2][]int
		for _, n := range disturbed(r, disturbed(r, upTo(len(leavesOf(b))))) {
			part := r.Intn(2)
			if slices.Contains(told[1-part], n) && r.Intn(3) > 0 {
				part = 1 - part
			}
			told[part] = append(told[part], n)
		}
		var want []int
		e := api.OK
		for _, n := range told[0] {
			if n == no {
				continue
			}
			if slices.Contains(told[1], n) {
				e = api.ErrTwice
			}
			if mate := mates[n]; mate != no && slices.Contains(told[1], mate) {
				want = append(want, n)
			}
		}
		slices.Sort(want)
		want = slices.Compact(want)
		if e != api.OK {
			want = nil
			twice++
		} else if len(want) > 0 {
			divided++
		}
		list, got := copy.Divided(b, items(told[0]...), items(told[1]...))
		if !slices.Equal(list, want) || got != e {
			t.Errorf("Divided(%v, %v, %v) = %v, %d, not %v, %d", b, told[0], told[1], list, got, want, e)
		}
	}
	if twice < 20 || divided < 100 {
		t.Errorf("%d copies have leaves of each other, and %d were divided", twice, divided)
	}
}

// P4.6: Ask is the first of the items with the narrowest range at worst, by the model of each case in which it is known.
func TestAsk(t *testing.T) {
	asked := map[int]int{}
	for _, c := range cases() {
		doubts := doubtsOf(c.CpCase)
		want, e := 0, api.ErrNone
		least := 0
		for _, i := range doubts {
			worst := 0
			for _, leaf := range c.Items[i].Could {
				s := spanOf(modelsOf(known(c.CpCase, i, leaf)))
				worst = max(worst, s.Hi-s.Lo)
			}
			if e != api.OK || worst < least {
				want, e, least = i, api.OK, worst
			}
		}
		if n, got := copy.Ask(c.CpCase); n != want || got != e {
			t.Errorf("Ask(%v) = %d, %d, not %d, %d", c.CpCase, n, got, want, e)
		}
		asked[slices.Index(doubts, want)]++
	}
	for n := range api.MaxCpDoubts {
		if asked[n] < 10 {
			t.Errorf("the doubtful item %d is asked %d times", n, asked[n])
		}
	}
}

// P4.2, P4.6, P1: as many leaves, items and doubts as can be, all of them in the wrong order.
func TestMost(t *testing.T) {
	for _, formula := range []string{most, many} {
		leaves := len(leavesOf(bookOf(formula)))
		back := upTo(leaves)
		slices.Reverse(back)
		c := bindingOf(formula, back...)
		if f := faultsOf(t, c); len(f.Moved) != leaves-1 || f.Moved[0] != 1 || f.All != leaves-1 {
			t.Errorf("Faults = %v", f)
		}
		for _, i := range []int{10, 50, 90} {
			c.Items[i] = item(0, 20, 40, leaves-1)
		}
		best := fewestOf(modelsOf(c))
		if f := faultsOf(t, c); !sameFaults(f, best.CpFaults) {
			t.Errorf("Faults = %v, not %v", f, best.CpFaults)
		}
		if _, e := copy.Ask(c); e != api.OK {
			t.Errorf("Ask: %d", e)
		}
		// All items can be strange, or the same leaf.
		if f := faultsOf(t, caseOf(formula, make([]api.CpItem, api.MaxCpItems)...)); len(f.Strange) != api.MaxCpItems || f.All != f.Pieces+api.MaxCpItems {
			t.Errorf("Faults = %v", f)
		}
		if f := faultsOf(t, bindingOf(formula, make([]int, api.MaxCpItems)...)); len(f.Twice) != api.MaxCpItems-1 || len(f.Moved) != 0 {
			t.Errorf("Faults = %v", f)
		}
	}
}

// P4.2, P4.3: the most faults that a copy can have: no leaf of the book has a mate, none is there, and all items are strange.
func TestMostFaults(t *testing.T) {
	b := bookOf("A1 $0")
	for range api.MaxQuGatherings - 1 {
		g := b.Gatherings[len(b.Gatherings)-1]
		next, _ := quire.Next(g.Sig)
		b.Gatherings = append(b.Gatherings, api.QuGathering{Sig: next, Leaves: 1})
	}
	for i := range b.Gatherings {
		b.Gatherings[i].Changes = []api.QuChange{{Kind: api.QuPlus, At: 1, Many: 3}}
	}
	c := api.CpCase{Book: b, Items: make([]api.CpItem, api.MaxCpItems)}
	f := faultsOf(t, c)
	if s := rangeOf(t, c); f.All != 240 || f.Pieces != 120 || len(f.Lost) != 120 || len(f.Leaves) != 120 || s != (api.Span{Lo: 240, Hi: 240}) {
		t.Errorf("Faults = %v; Range = %v", f, s)
	}
	sure, may := toldOf(t, api.CpCase{Book: b, Items: items(0, 1, 5)}, copy.Loose)
	if len(sure) > 0 || len(may) > 0 {
		t.Errorf("Loose = %v, %v", sure, may)
	}
}
