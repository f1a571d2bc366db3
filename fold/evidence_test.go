package fold_test

import (
	"math/bits"
	"math/rand"
	"slices"
	"testing"

	"duodecimo/api"
	"duodecimo/fold"
)

// agreeing are the ways of making that agree, of a case without an error.
func agreeing(t *testing.T, p api.FoPress, b api.FoBook) []api.FoMake {
	t.Helper()
	list, e := fold.Agree(p, b)
	if e != api.OK {
		t.Fatalf("Agree(%v, %v): %d", p, b, e)
	}
	return list
}

// wrongOf are the pieces that are wrong, of a case that some way of making has the leaves of.
func wrongOf(t *testing.T, p api.FoPress, b api.FoBook) []int {
	t.Helper()
	list, e := fold.Wrong(p, b)
	if e != api.OK {
		t.Fatalf("Wrong(%v, %v): %d", p, b, e)
	}
	return list
}

// across is a gathering of 4 leaves with chain lines across.
func across(wide api.Span) api.FoBook {
	return api.FoBook{Leaves: 4, Chain: api.FoAcross, Wide: wide, High: anySize}
}

// The chapter's examples of evidence.
func TestExamplesOfEvidence(t *testing.T) {
	p := example()
	if list := agreeing(t, p, across(span(145, 146))); !slices.Equal(list, []api.FoMake{make1(quarto)}) {
		t.Errorf("Agree = %v", list)
	}
	want := []api.FoMake{{Format: folio, Sheets: 2}, {Format: quarto, Sheets: 1}, {Format: octavo, Sheets: 1, Half: true}}
	if list := agreeing(t, p, unknown(4)); !slices.Equal(list, want) {
		t.Errorf("Agree = %v", list)
	}
	for leaf, want := range [][2][]int{{{3}, {1, 2, 3}}, {{2}, {0, 2, 3}}, {{1}, {0, 1, 3}}, {{0}, {0, 1, 2}}} {
		must, may, e := fold.Together(p, unknown(4), leaf)
		if !slices.Equal(must, want[0]) || !slices.Equal(may, want[1]) || e != api.OK {
			t.Errorf("Together of %d = %v, %v, %d", leaf, must, may, e)
		}
	}
	b := api.FoBook{Leaves: 4, Chain: api.FoUpright, Wide: span(145, 146), High: span(190, 191)}
	if list := wrongOf(t, p, b); !slices.Equal(list, []int{0}) {
		t.Errorf("Wrong = %v", list)
	}
}

// P2.5: a leaf is as wide and high as it can be by the sizes of its paper and the trim, and no wider or narrower: the ends are 140 and 153, 180 and 205 for a quarto, 90 and 102, 130 and 153 for an octavo.
func TestSizes(t *testing.T) {
	for i, c := range []struct {
		format, leaves int
		wide, high     api.Span
		want           bool
	}{
		{quarto, 4, span(0, 139), anySize, false},
		{quarto, 4, span(0, 140), anySize, true},
		{quarto, 4, span(153, 2000), anySize, true},
		{quarto, 4, span(154, 2000), anySize, false},
		{quarto, 4, anySize, span(0, 179), false},
		{quarto, 4, anySize, span(0, 180), true},
		{quarto, 4, anySize, span(205, 2000), true},
		{quarto, 4, anySize, span(206, 2000), false},
		{octavo, 8, span(0, 89), anySize, false},
		{octavo, 8, span(0, 90), anySize, true},
		{octavo, 8, span(102, 102), anySize, true},
		{octavo, 8, span(103, 2000), anySize, false},
		{octavo, 8, anySize, span(0, 129), false},
		{octavo, 8, anySize, span(130, 130), true},
		{octavo, 8, anySize, span(153, 153), true},
		{octavo, 8, anySize, span(154, 2000), false},
		// A half-sheet's leaves are as large as those of the whole sheet.
		{octavo, 4, span(102, 102), span(153, 153), true},
		{octavo, 4, span(103, 2000), anySize, false},
	} {
		m := api.FoMake{Format: c.format, Sheets: 1, Half: c.leaves == 4 && c.format == octavo}
		b := api.FoBook{Leaves: c.leaves, Wide: c.wide, High: c.high}
		if got := slices.Contains(agreeing(t, example(), b), m); got != c.want {
			t.Errorf("%d: agrees: %t", i, got)
		}
	}
}

// P2.5: sizes are rounded down, and a leaf can be trimmed to nothing.
func TestRounded(t *testing.T) {
	p := formats(format("long", "xxxx"), format("tall", "yyyy"))
	p.Papers = []api.FoPaper{paper("pot", span(33, 47), span(1, 15))}
	p.Trim = 0
	for i, c := range []struct {
		wide, high api.Span
		want       []api.FoMake
	}{
		{span(2, 2), anySize, []api.FoMake{make1(0)}},
		{span(3, 2000), anySize, nil},
		{span(1, 1), anySize, nil},
		{span(0, 0), anySize, []api.FoMake{make1(1)}},
		{anySize, span(1, 15), []api.FoMake{make1(0)}},
		{anySize, span(16, 32), nil},
		{anySize, span(33, 33), []api.FoMake{make1(1)}},
	} {
		if list := agreeing(t, p, api.FoBook{Leaves: 16, Wide: c.wide, High: c.high}); !slices.Equal(list, c.want) {
			t.Errorf("%d: Agree = %v", i, list)
		}
	}
	p.Trim = 2
	if list := agreeing(t, p, api.FoBook{Leaves: 16, Wide: span(0, 0), High: span(0, 0)}); !slices.Equal(list, []api.FoMake{make1(0)}) {
		t.Errorf("Agree = %v", list)
	}
}

// P2.5: chain lines are upright if the last fold is an x, also of a half-sheet.
func TestChains(t *testing.T) {
	for _, m := range allMade() {
		upright := m.folds[len(m.folds)-1] == 'x'
		for chain, want := range []bool{true, upright, !upright} {
			b := unknown(len(followed(m)))
			b.Chain = chain
			if got := slices.Contains(agreeing(t, m.FoPress, b), m.FoMake); got != want {
				t.Errorf("%v agrees with chain lines %d: %t", m, chain, got)
			}
		}
	}
}

// P2.5: each sheet has its watermark in a half of its own, the same one for all its marks.
func TestMarks(t *testing.T) {
	two := formats(format("quarto", "xy"))
	half := formats(format("quarto", "xy"))
	half.Sheets = 1
	for i, c := range []struct {
		p    api.FoPress
		b    api.FoBook
		want bool
	}{
		{two, unknown(8, mark(0, true), mark(7, true), mark(1, false), mark(6, false)), true},
		{two, unknown(8, mark(1, true), mark(6, true), mark(0, false), mark(7, false)), true},
		{two, unknown(8, mark(0, true), mark(6, true)), false},
		{two, unknown(8, mark(0, false), mark(6, false)), false},
		{two, unknown(8, mark(0, true), mark(7, false)), false},
		{two, unknown(8, mark(0, true), mark(1, true)), false},
		{two, unknown(8, mark(0, true), mark(1, false), mark(2, false), mark(3, true)), true},
		{two, unknown(8, mark(0, true), mark(2, false), mark(3, true), mark(5, false)), true},
		{two, unknown(8, mark(0, true), mark(2, false), mark(3, true), mark(4, false)), false},
		{two, unknown(8, mark(0, true), mark(0, true)), true},
		{two, unknown(8, mark(0, true), mark(0, false)), false},
		// Half a quarto has the mark in both of its leaves, or in none.
		{half, unknown(2, mark(0, true), mark(1, true)), true},
		{half, unknown(2, mark(0, false), mark(1, false)), true},
		{half, unknown(2, mark(0, true), mark(1, false)), false},
	} {
		if got := len(agreeing(t, c.p, c.b)) > 0; got != c.want {
			t.Errorf("%d: agrees: %t", i, got)
		}
	}
}

// P2.5: ways of making are told by format, then by paper; none is told twice, whatever halves its watermarks can have.
func TestOrderOfWays(t *testing.T) {
	p := example()
	p.Papers = append(p.Papers, paper("crown", span(480, 500), span(360, 380)))
	want := []api.FoMake{
		{Format: folio, Paper: 0, Sheets: 2}, {Format: folio, Paper: 1, Sheets: 2},
		{Format: quarto, Paper: 0, Sheets: 1}, {Format: quarto, Paper: 1, Sheets: 1},
		{Format: octavo, Paper: 0, Sheets: 1, Half: true}, {Format: octavo, Paper: 1, Sheets: 1, Half: true},
	}
	if list := agreeing(t, p, unknown(4)); !slices.Equal(list, want) {
		t.Errorf("Agree = %v", list)
	}
}

// P2.5: Agree is all ways of making of which nothing is false with some halves, tried one by one.
func TestAgree(t *testing.T) {
	for _, c := range cases() {
		var want []api.FoMake
		for _, o := range outcomes(c.p, c.b) {
			if len(o.wrong) == 0 && !slices.Contains(want, o.FoMake) {
				want = append(want, o.FoMake)
			}
		}
		if list := agreeing(t, c.p, c.b); !slices.Equal(list, want) {
			t.Errorf("Agree(%v, %v) = %v, not %v", c.p, c.b, list, want)
		}
	}
}

// P2.5: Together is what the ways of making that agree have in common, and what any of them has.
func TestTogether(t *testing.T) {
	none := 0
	for _, c := range cases() {
		makes := agreeing(t, c.p, c.b)
		if len(makes) == 0 {
			none++
		}
		for leaf := range c.b.Leaves {
			times := make([]int, c.b.Leaves)
			for _, m := range makes {
				leaves := followed(made{c.p, m, c.p.Formats[m.Format].Folds})
				for i, l := range leaves {
					if l.Sheet == leaves[leaf].Sheet {
						times[i]++
					}
				}
			}
			var all, some []int
			want := api.OK
			if len(makes) == 0 {
				want = api.ErrZero
			}
			for i, n := range times {
				if i != leaf && n > 0 {
					some = append(some, i)
					if n == len(makes) {
						all = append(all, i)
					}
				}
			}
			must, may, e := fold.Together(c.p, c.b, leaf)
			if !slices.Equal(must, all) || !slices.Equal(may, some) || e != want {
				t.Errorf("Together(%v, %v, %d) = %v, %v, %d", c.p, c.b, leaf, must, may, e)
			}
		}
	}
	if none == 0 {
		t.Error("some way agrees with each case")
	}
}

// P2.5: a leaf that there is not comes before evidence that nothing agrees with.
func TestTogetherErrors(t *testing.T) {
	for _, b := range []api.FoBook{unknown(4), unknown(3), across(span(2000, 2000))} {
		for _, leaf := range numbers(0, b.Leaves) {
			want := api.OK
			if leaf < 0 || leaf >= b.Leaves {
				want = api.ErrNone
			} else if b.Leaves == 3 || b.Chain == api.FoAcross {
				want = api.ErrZero
			}
			must, may, e := fold.Together(example(), b, leaf)
			if e != want || e != api.OK && len(must)+len(may) != 0 {
				t.Errorf("Together(%v, %d) = %v, %v, %d", b, leaf, must, may, e)
			}
		}
	}
}

// P2.6: Wrong is the first of the shortest lists of what is false of a way of making with some halves, tried one by one.
func TestWrong(t *testing.T) {
	sizes := map[int]int{}
	for _, c := range cases() {
		want := outcomes(c.p, c.b)[0].wrong
		for _, o := range outcomes(c.p, c.b) {
			if len(o.wrong) < len(want) || len(o.wrong) == len(want) && slices.Compare(o.wrong, want) < 0 {
				want = o.wrong
			}
		}
		if list := wrongOf(t, c.p, c.b); !slices.Equal(list, want) {
			t.Errorf("Wrong(%v, %v) = %v, not %v", c.p, c.b, list, want)
		}
		sizes[len(want)]++
	}
	for n := range 4 {
		if sizes[n] == 0 {
			t.Errorf("of no case %d pieces are wrong", n)
		}
	}
}

// P2.6: of lists that are as short the first one is told, by its first piece, then by the next one.
func TestFirstOfWrong(t *testing.T) {
	p := formats(format("quarto", "xy"))
	for i, c := range []struct {
		b    api.FoBook
		want []int
	}{
		{unknown(4, mark(0, true), mark(0, false)), []int{3}},
		{unknown(4, mark(0, true), mark(1, true)), []int{3}},
		{unknown(4, mark(0, true), mark(1, true), mark(3, true)), []int{4}},
		{unknown(4, mark(0, true), mark(1, true), mark(2, true), mark(3, true)), []int{3, 6}},
		{unknown(8, mark(0, true), mark(1, true), mark(2, false), mark(2, true)), []int{3, 5}},
		{unknown(4, mark(0, true), mark(0, false), mark(0, true), mark(0, false), mark(0, true), mark(0, false), mark(0, true), mark(0, false)), []int{3, 5, 7, 9}},
		{api.FoBook{Leaves: 4, Chain: api.FoUpright, Wide: span(1, 1), High: span(1, 1)}, []int{0, 1, 2}},
		{api.FoBook{Leaves: 4, Chain: api.FoUpright, Wide: span(1, 1), High: span(1, 1), Marks: []api.FoMark{mark(0, true), mark(1, true)}}, []int{0, 1, 2, 3}},
	} {
		if list := wrongOf(t, p, c.b); !slices.Equal(list, c.want) {
			t.Errorf("%d: Wrong = %v", i, list)
		}
	}
	// A folio of two sheets has other sizes, a quarto other chain lines: one piece is wrong in any case.
	b := api.FoBook{Leaves: 4, Chain: api.FoUpright, Wide: span(145, 146), High: anySize}
	if list := wrongOf(t, example(), b); !slices.Equal(list, []int{0}) {
		t.Errorf("Wrong = %v", list)
	}
}

// P2.6: no way of making has as many leaves.
func TestNoSuchLeaves(t *testing.T) {
	p := example()
	has := map[int]bool{2: true, 4: true, 8: true, 16: true} // by folios, quartos and octavos, and a half-sheet of quarto or octavo
	for n := 1; n <= api.MaxFoLeaves; n++ {
		b := unknown(n, mark(0, true), mark(0, false))
		list, e := fold.Wrong(p, b)
		if has[n] && (e != api.OK || !slices.Equal(list, []int{3})) || !has[n] && (e != api.ErrDown || len(list) != 0) {
			t.Errorf("%d leaves: Wrong = %v, %d", n, list, e)
		}
		if makes := agreeing(t, p, unknown(n)); (len(makes) > 0) != has[n] {
			t.Errorf("%d leaves: Agree = %v", n, makes)
		}
	}
}

// P2.7: what is truly seen agrees with the way of making; nothing is wrong, and all that must be together is.
func TestTrueEvidence(t *testing.T) {
	r := rand.New(rand.NewSource(7))
	for range 1500 {
		p := somePress(r)
		c := someTruth(r, p)
		b := c.seen(r)
		if list := agreeing(t, p, b); !slices.Contains(list, c.FoMake) {
			t.Errorf("Agree(%v, %v) = %v, without %v", p, b, list, c.FoMake)
		}
		if list := wrongOf(t, p, b); len(list) != 0 {
			t.Errorf("Wrong(%v, %v) = %v", p, b, list)
		}
		leaf := r.Intn(b.Leaves)
		must, may, e := fold.Together(p, b, leaf)
		mates, conjugate := matesOf(t, made{p, c.FoMake, c.folds}, leaf)
		if e != api.OK || !within(must, mates) || !within(mates, may) || !slices.Contains(may, conjugate) {
			t.Errorf("Together(%v, %v, %d) = %v, %v, %d; the mates are %v", p, b, leaf, must, may, e, mates)
		}
	}
}

// within reports whether all numbers of a list are in another one.
func within(a, b []int) bool {
	for _, n := range a {
		if !slices.Contains(b, n) {
			return false
		}
	}
	return true
}

// P2.12: with one more mark no way is added, no leaf may be together that may not be, and all that must be still must.
func TestOneMoreMark(t *testing.T) {
	r := rand.New(rand.NewSource(12))
	for _, c := range cases() {
		if len(c.b.Marks) == api.MaxFoMarks {
			continue
		}
		more := c.b
		more.Marks = append(slices.Clone(c.b.Marks), mark(r.Intn(c.b.Leaves), r.Intn(2) == 0))
		before, after := agreeing(t, c.p, c.b), agreeing(t, c.p, more)
		for _, m := range after {
			if !slices.Contains(before, m) {
				t.Errorf("%v agrees with %v, and not with fewer marks", m, more)
			}
		}
		leaf := r.Intn(c.b.Leaves)
		must, may, e := fold.Together(c.p, c.b, leaf)
		mustMore, mayMore, f := fold.Together(c.p, more, leaf)
		if f == api.OK && (e != api.OK || !within(must, mustMore) || !within(mayMore, may)) {
			t.Errorf("Together(%v, %v, %d) = %v, %v; before %v, %v", c.p, more, leaf, mustMore, mayMore, must, may)
		}
	}
}

// P2.13: without the pieces of Wrong some way agrees, and without any fewer none does.
func TestNoFewer(t *testing.T) {
	for _, c := range cases()[:300] {
		wrong := wrongOf(t, c.p, c.b)
		set := 0
		for _, piece := range wrong {
			set |= 1 << piece
		}
		for s := range 1 << (3 + len(c.b.Marks)) {
			if s != set && bits.OnesCount(uint(s)) >= len(wrong) {
				continue
			}
			list := agreeing(t, c.p, without(c.b, s))
			if (len(list) > 0) != (s == set) {
				t.Errorf("Wrong(%v, %v) = %v; without the set %b agree %v", c.p, c.b, wrong, s, list)
			}
		}
	}
}

// without is what is seen but for a set of pieces.
func without(b api.FoBook, set int) api.FoBook {
	left := b
	if set&1 != 0 {
		left.Chain = api.FoUnknown
	}
	// Each leaf can be from 0 to MaxFoSize wide and high, so any size is true of all ways.
	if set&2 != 0 {
		left.Wide = anySize
	}
	if set&4 != 0 {
		left.High = anySize
	}
	left.Marks = nil
	for i, m := range b.Marks {
		if set>>(3+i)&1 == 0 {
			left.Marks = append(left.Marks, m)
		}
	}
	return left
}

// P2.13: if some pieces of what is truly seen are made wrong, no more than these are named.
func TestNoMoreThanMistaken(t *testing.T) {
	r := rand.New(rand.NewSource(13))
	found := 0
	for range 1000 {
		p := somePress(r)
		b := someTruth(r, p).seen(r)
		bad := mistaken(r, b)
		changed := 0
		for _, differs := range []bool{bad.Chain != b.Chain, bad.Wide != b.Wide, bad.High != b.High} {
			if differs {
				changed++
			}
		}
		for i := range b.Marks {
			if bad.Marks[i] != b.Marks[i] {
				changed++
			}
		}
		list := wrongOf(t, p, bad)
		if len(list) > changed {
			t.Errorf("Wrong(%v, %v) = %v, but only %d are", p, bad, list, changed)
		}
		found += len(list)
	}
	if found == 0 {
		t.Error("no mistake was found")
	}
}

// widened is a span with a little more on both sides.
func widened(r *rand.Rand, s api.Span, lo, hi int) api.Span {
	return span(max(lo, s.Lo-r.Intn(3)), min(hi, s.Hi+r.Intn(3)))
}

// P2.14: with more trim, wider papers and wider spans all ways that agreed still do, and no more is wrong.
func TestWider(t *testing.T) {
	r := rand.New(rand.NewSource(14))
	for _, c := range cases() {
		p, b := c.p, c.b
		p.Trim = min(api.MaxFoTrim, p.Trim+r.Intn(3))
		p.Papers = slices.Clone(p.Papers)
		for i, q := range p.Papers {
			p.Papers[i].Wide = widened(r, q.Wide, 1, api.MaxFoSize)
			p.Papers[i].High = widened(r, q.High, 1, api.MaxFoSize)
		}
		b.Wide, b.High = widened(r, b.Wide, 0, api.MaxFoSize), widened(r, b.High, 0, api.MaxFoSize)
		list := agreeing(t, p, b)
		for _, m := range agreeing(t, c.p, c.b) {
			if !slices.Contains(list, m) {
				t.Errorf("%v agrees with %v, and not with %v, %v", m, c.b, p, b)
			}
		}
		if x, y := wrongOf(t, c.p, c.b), wrongOf(t, p, b); len(y) > len(x) {
			t.Errorf("Wrong = %v, and with what is wider %v", x, y)
		}
	}
}

// cloned is a press and a gathering that share no memory with others.
func cloned(p api.FoPress, b api.FoBook) (api.FoPress, api.FoBook) {
	p.Formats, p.Papers, b.Marks = slices.Clone(p.Formats), slices.Clone(p.Papers), slices.Clone(b.Marks)
	return p, b
}

// overwrite puts zeros over all of a slice, and over what lies behind it.
func overwrite[T any](list []T) {
	clear(list[:cap(list)])
}

// P2.15: no argument is changed, and a result that is overwritten changes nothing.
func TestMemory(t *testing.T) {
	for _, c := range cases()[:200] {
		p, b := cloned(c.p, c.b)
		m := makes(p)[0]
		halves := make([]int, 1)
		var first []any
		for range 2 {
			leaves, _ := fold.Leaves(p, m)
			forme, _ := fold.Forme(p, m, 0, true)
			mates, _, _ := fold.Mates(p, m, 0)
			marked, _ := fold.Marked(p, m, halves)
			agree, _ := fold.Agree(p, b)
			must, may, _ := fold.Together(p, b, 0)
			wrong, _ := fold.Wrong(p, b)
			all := []any{slices.Clone(leaves), slices.Clone(forme), slices.Clone(mates), slices.Clone(marked), slices.Clone(agree), slices.Clone(must), slices.Clone(may), slices.Clone(wrong)}
			if first == nil {
				first = all
			}
			if !same(first, all) {
				t.Errorf("%v, %v: %v became %v", p, b, first, all)
			}
			before := slices.Clone(may)
			overwrite(must)
			if !slices.Equal(may, before) {
				t.Errorf("the results of Together share memory")
			}
			for _, list := range [][]int{forme, mates, marked, may, wrong} {
				overwrite(list)
			}
			overwrite(leaves)
			overwrite(agree)
			fold.Check(p)
			fold.CheckBook(p, b)
		}
		if !slices.Equal(p.Formats, c.p.Formats) || !slices.Equal(p.Papers, c.p.Papers) || !slices.Equal(b.Marks, c.b.Marks) || halves[0] != 0 {
			t.Errorf("%v, %v became %v, %v", c.p, c.b, p, b)
		}
	}
}

// same reports whether two lists of results are the same.
func same(a, b []any) bool {
	return slices.EqualFunc(a, b, func(x, y any) bool {
		switch x := x.(type) {
		case []int:
			return slices.Equal(x, y.([]int))
		case []api.FoLeaf:
			return slices.Equal(x, y.([]api.FoLeaf))
		case []api.FoMake:
			return slices.Equal(x, y.([]api.FoMake))
		}
		return false
	})
}

// P2.15, P1: arguments with spare capacity are not written into.
func TestSpareCapacity(t *testing.T) {
	p := example()
	p.Formats = p.Formats[:2:3]
	p.Papers = append(p.Papers, pot(span(1, 1), span(1, 1)))[:1:2]
	marks := []api.FoMark{mark(0, true), mark(1, true), mark(2, true)}
	halves := []int{1, 7}
	b := unknown(4, marks[:2]...)
	fold.Agree(p, b)
	fold.Together(p, b, 0)
	fold.Wrong(p, b)
	fold.Marked(p, make1(quarto), halves[:1])
	if p.Formats[:3][2] != format("octavo", "xyx") || p.Papers[:2][1] != pot(span(1, 1), span(1, 1)) || marks[2] != mark(2, true) || halves[1] != 7 {
		t.Errorf("written behind the arguments: %v, %v, %v, %v", p.Formats[:3], p.Papers[:2], marks, halves)
	}
}
