package fold_test

import (
	"math"
	"slices"
	"testing"

	"duodecimo/api"
	"duodecimo/fold"
)

// leavesOf are the leaves of a way of making without an error.
func leavesOf(t *testing.T, m made) []api.FoLeaf {
	t.Helper()
	list, e := fold.Leaves(m.FoPress, m.FoMake)
	if e != api.OK {
		t.Fatalf("%v: Leaves: %d", m, e)
	}
	return list
}

// formeOf is a forme of a way of making without an error.
func formeOf(t *testing.T, m made, sheet int, inner bool) []int {
	t.Helper()
	list, e := fold.Forme(m.FoPress, m.FoMake, sheet, inner)
	if e != api.OK {
		t.Fatalf("%v: Forme: %d", m, e)
	}
	return list
}

// matesOf are the mates of a leaf, and the conjugate one.
func matesOf(t *testing.T, m made, leaf int) ([]int, int) {
	t.Helper()
	list, conjugate, e := fold.Mates(m.FoPress, m.FoMake, leaf)
	if e != api.OK {
		t.Fatalf("%v: Mates: %d", m, e)
	}
	return list, conjugate
}

// The chapter's examples of leaves, formes, mates and marks.
func TestExamplesOfLeaves(t *testing.T) {
	p := example()
	leaves, e := fold.Leaves(p, make1(quarto))
	want := []api.FoLeaf{{}, {Column: 1, Inner: true, Turned: true}, {Column: 1, Row: 1, Turned: true}, {Row: 1, Inner: true}}
	if !slices.Equal(leaves, want) || e != api.OK {
		t.Errorf("Leaves of Q = %v, %d", leaves, e)
	}
	for i, c := range []struct {
		format int
		inner  bool
		want   []int
	}{
		{quarto, false, []int{1, -4, 8, -5}},
		{quarto, true, []int{2, -3, 7, -6}},
		{octavo, false, []int{1, 16, 13, 4, -8, -9, -12, -5}},
		{folio, false, []int{1, 4}},
		{folio, true, []int{2, 3}},
	} {
		if list, e := fold.Forme(p, make1(c.format), 0, c.inner); !slices.Equal(list, c.want) || e != api.OK {
			t.Errorf("%d: Forme = %v, %d", i, list, e)
		}
	}
	mates, conjugate, e := fold.Mates(p, make1(octavo), 1)
	if !slices.Equal(mates, []int{0, 2, 3, 4, 5, 6, 7}) || conjugate != 6 || e != api.OK {
		t.Errorf("Mates of O = %v, %d, %d", mates, conjugate, e)
	}
	for i, c := range []struct{ format, half int }{{quarto, 0}, {octavo, 0}, {octavo, 1}} {
		want := [][]int{{0, 3}, {0, 3, 4, 7}, {1, 2, 5, 6}}[i]
		if list, e := fold.Marked(p, make1(c.format), []int{c.half}); !slices.Equal(list, want) || e != api.OK {
			t.Errorf("%d: Marked = %v, %d", i, list, e)
		}
	}
}

// P2.3: Leaves is as if each leaf were followed alone through the folds, with all formats, of half a sheet to four sheets.
func TestLeaves(t *testing.T) {
	for _, m := range allMade() {
		if list := leavesOf(t, m); !slices.Equal(list, followed(m)) {
			t.Errorf("%v: Leaves = %v", m, list)
		}
	}
}

// P2.3: two sheets lie in each other, the first one outside.
func TestTwoSheets(t *testing.T) {
	m := made{example(), api.FoMake{Format: folio, Sheets: 2}, "x"}
	want := []api.FoLeaf{{Sheet: 0}, {Sheet: 1}, {Sheet: 1, Column: 1, Inner: true}, {Sheet: 0, Column: 1, Inner: true}}
	if list := leavesOf(t, m); !slices.Equal(list, want) {
		t.Errorf("Leaves = %v", list)
	}
	for sheet, want := range [][]int{{1, 8, 2, 7}, {3, 6, 4, 5}} {
		if list := slices.Concat(formeOf(t, m, sheet, false), formeOf(t, m, sheet, true)); !slices.Equal(list, want) {
			t.Errorf("formes of sheet %d: %v", sheet, list)
		}
	}
}

// P2.3: a half-sheet is the left, or the upper, half of a sheet, folded by the other folds alone.
func TestHalfSheets(t *testing.T) {
	for i, c := range []struct {
		folds        string
		leaves       []api.FoLeaf
		outer, inner []int
	}{
		{"xy", []api.FoLeaf{{}, {Row: 1, Inner: true}}, []int{1, 4}, []int{2, 3}},
		{"yx", []api.FoLeaf{{}, {Column: 1, Inner: true}}, []int{1, 4}, []int{2, 3}},
		{"xyx", []api.FoLeaf{{}, {Row: 1, Inner: true, Turned: true}, {Column: 1, Row: 1, Turned: true}, {Column: 1, Inner: true}}, []int{1, 8, -4, -5}, []int{2, 7, -3, -6}},
		{"yxx", []api.FoLeaf{{}, {Column: 3, Inner: true}, {Column: 2}, {Column: 1, Inner: true}}, []int{1, 8, 5, 4}, []int{2, 7, 6, 3}},
	} {
		m := made{formats(format("new", c.folds)), api.FoMake{Sheets: 1, Half: true}, c.folds}
		leaves, outer, inner := leavesOf(t, m), formeOf(t, m, 0, false), formeOf(t, m, 0, true)
		if !slices.Equal(leaves, c.leaves) || !slices.Equal(outer, c.outer) || !slices.Equal(inner, c.inner) {
			t.Errorf("%d: %v; outer %v; inner %v", i, leaves, outer, inner)
		}
	}
}

// P2.3: Forme has each page at the place of its leaf, row by row, on the side where it is, and below 0 if it is turned.
func TestForme(t *testing.T) {
	for _, m := range allMade() {
		_, columns, rows := m.cut()
		for sheet := range m.FoMake.Sheets {
			var formes [2][]int // outer, inner
			for i := range formes {
				formes[i] = make([]int, columns*rows)
			}
			for i, l := range followed(m) {
				if l.Sheet != sheet {
					continue
				}
				recto, verso, at := 2*i+1, 2*i+2, l.Row*columns+l.Column
				if l.Turned {
					recto, verso = -recto, -verso
				}
				if l.Inner {
					recto, verso = verso, recto
				}
				formes[0][at], formes[1][at] = recto, verso
			}
			for i, want := range formes {
				if list := formeOf(t, m, sheet, i == 1); !slices.Equal(list, want) {
					t.Errorf("%v: Forme of sheet %d, inner %t = %v", m, sheet, i == 1, list)
				}
			}
		}
	}
}

// P2.3, P2.4: a sheet, or a leaf, that there is not.
func TestNone(t *testing.T) {
	for _, m := range allMade() {
		leaves := len(followed(m))
		for _, n := range numbers(0, m.FoMake.Sheets, leaves) {
			if _, e := fold.Forme(m.FoPress, m.FoMake, n, true); (e == api.OK) != (n >= 0 && n < m.FoMake.Sheets) || e != api.OK && e != api.ErrNone {
				t.Errorf("%v: Forme of sheet %d: %d", m, n, e)
			}
			mates, conjugate, e := fold.Mates(m.FoPress, m.FoMake, n)
			if n >= 0 && n < leaves {
				if e != api.OK {
					t.Errorf("%v: Mates of %d: %d", m, n, e)
				}
			} else if e != api.ErrNone || len(mates)+conjugate != 0 {
				t.Errorf("%v: Mates of %d = %v, %d, %d", m, n, mates, conjugate, e)
			}
		}
	}
	if list, e := fold.Forme(example(), make1(quarto), math.MaxInt, false); len(list) != 0 || e != api.ErrNone {
		t.Errorf("Forme = %v, %d", list, e)
	}
}

// P2.4: Mates are the other leaves of the sheet, and the one that is as far from its end as the leaf is from its beginning.
func TestMates(t *testing.T) {
	for _, m := range allMade() {
		leaves := followed(m)
		for i, l := range leaves {
			var want []int
			for j, k := range leaves {
				if i != j && k.Sheet == l.Sheet {
					want = append(want, j)
				}
			}
			mates, conjugate := matesOf(t, m, i)
			if !slices.Equal(mates, want) || conjugate != opposite(leaves, i) {
				t.Errorf("%v: Mates of %d = %v, %d", m, i, mates, conjugate)
			}
		}
	}
}

// opposite is the leaf n less 1 less i of the n leaves of a sheet, where leaf is its leaf i.
func opposite(leaves []api.FoLeaf, leaf int) int {
	var list []int
	for i, l := range leaves {
		if l.Sheet == leaves[leaf].Sheet {
			list = append(list, i)
		}
	}
	return list[len(list)-1-slices.Index(list, leaf)]
}

// P2.4: Marked is as if the squares about the mark were asked of which leaves they are.
func TestMarked(t *testing.T) {
	for _, m := range allMade() {
		for n := range 1 << m.FoMake.Sheets {
			var halves, want []int
			for sheet := range m.FoMake.Sheets {
				halves = append(halves, n>>sheet&1)
			}
			for i, l := range followed(m) {
				if touched(m.folds, l, halves[l.Sheet]) {
					want = append(want, i)
				}
			}
			if list, e := fold.Marked(m.FoPress, m.FoMake, halves); !slices.Equal(list, want) || e != api.OK {
				t.Errorf("%v: Marked with %v = %v, %d", m, halves, list, e)
			}
		}
	}
}

// P2.4: not as many halves as sheets, before halves that are neither 0 nor 1.
func TestMarkedErrors(t *testing.T) {
	for i, c := range []struct {
		sheets int
		halves []int
		e      api.Errno
	}{
		{1, nil, api.ErrLong},
		{1, []int{0, 1}, api.ErrLong},
		{1, []int{2, 2}, api.ErrLong},
		{2, []int{-1}, api.ErrLong},
		{1, make([]int, 1<<20), api.ErrLong},
		{1, []int{-1}, api.ErrRange},
		{1, []int{2}, api.ErrRange},
		{2, []int{0, 2}, api.ErrRange},
		{2, []int{-1, 1}, api.ErrRange},
		{2, []int{math.MinInt, 0}, api.ErrRange},
		{2, []int{1, math.MaxInt}, api.ErrRange},
		{2, []int{1, 0}, api.OK},
	} {
		list, e := fold.Marked(example(), api.FoMake{Format: quarto, Sheets: c.sheets}, c.halves)
		if e != c.e || e != api.OK && len(list) != 0 {
			t.Errorf("%d: Marked = %v, %d", i, list, e)
		}
	}
}

// P2.8: each page lies on just one forme, at one place; recto and verso back to back; a verso and the recto of the next leaf of the sheet on one forme.
func TestImposed(t *testing.T) {
	for _, m := range allMade() {
		leaves := leavesOf(t, m)
		times := map[int]int{}
		inner := map[int]bool{}
		for sheet := range m.FoMake.Sheets {
			below, above := formeOf(t, m, sheet, false), formeOf(t, m, sheet, true)
			for i := range below {
				a, b := max(below[i], -below[i]), max(above[i], -above[i])
				times[a]++
				times[b]++
				inner[b] = true
				if (a+1)/2 != (b+1)/2 || (below[i] < 0) != (above[i] < 0) {
					t.Errorf("%v: %d and %d lie back to back", m, below[i], above[i])
				}
			}
		}
		last := map[int]int{}
		for i, l := range leaves {
			if times[2*i+1] != 1 || times[2*i+2] != 1 {
				t.Errorf("%v: pages of leaf %d: %d, %d times", m, i, times[2*i+1], times[2*i+2])
			}
			if inner[2*i+1] != l.Inner {
				t.Errorf("%v: page %d is on the inner forme: %t", m, 2*i+1, inner[2*i+1])
			}
			if before, ok := last[l.Sheet]; ok && inner[2*before+2] != inner[2*i+1] {
				t.Errorf("%v: pages %d and %d are on different formes", m, 2*before+2, 2*i+1)
			}
			last[l.Sheet] = i
		}
		if len(times) != 2*len(leaves) {
			t.Errorf("%v: %d pages", m, len(times))
		}
	}
}

// P2.9: conjugate leaves lie beside each other, are turned alike, and have their rectos on different formes.
func TestConjugate(t *testing.T) {
	for _, m := range allMade() {
		leaves := leavesOf(t, m)
		for i, a := range leaves {
			_, conjugate := matesOf(t, m, i)
			b := leaves[conjugate]
			across, along := a.Column-b.Column, a.Row-b.Row
			if m.folds[len(m.folds)-1] == 'y' {
				across, along = along, across
			}
			if across*across != 1 || along != 0 || a.Sheet != b.Sheet || a.Turned != b.Turned || a.Inner == b.Inner {
				t.Errorf("%v: leaf %d is %v, its conjugate %v", m, i, a, b)
			}
			if _, back := matesOf(t, m, conjugate); back != i {
				t.Errorf("%v: the conjugate of %d is %d, and its %d", m, i, conjugate, back)
			}
		}
	}
}

// P2.10: a sheet has as many leaves as columns times rows, each at a place of its own; with its mates a leaf makes it up.
func TestWhole(t *testing.T) {
	for _, m := range allMade() {
		_, columns, rows := m.cut()
		leaves := leavesOf(t, m)
		if len(leaves) != columns*rows*m.FoMake.Sheets {
			t.Errorf("%v has %d leaves", m, len(leaves))
		}
		places := map[[3]int]bool{}
		for i, l := range leaves {
			places[[3]int{l.Sheet, l.Column, l.Row}] = true
			if l.Column < 0 || l.Column >= columns || l.Row < 0 || l.Row >= rows {
				t.Errorf("%v: leaf %d is %v", m, i, l)
			}
			mates, _ := matesOf(t, m, i)
			sheet := append(mates, i)
			slices.Sort(sheet)
			if len(sheet) != columns*rows {
				t.Errorf("%v: leaf %d is of a sheet of %v", m, i, sheet)
			}
			for _, j := range sheet {
				others, _ := matesOf(t, m, j)
				others = append(others, j)
				slices.Sort(others)
				if !slices.Equal(others, sheet) {
					t.Errorf("%v: %d is a mate of %d, with %v and %v", m, j, i, others, sheet)
				}
			}
		}
		if len(places) != len(leaves) {
			t.Errorf("%v: %d leaves are at %d places", m, len(leaves), len(places))
		}
	}
}

// P2.11: a watermark is in 1, 2 or 4 leaves of a sheet, or in none of a half-sheet; in others for the other half, if some fold is an x.
func TestWatermark(t *testing.T) {
	none := 0
	for _, m := range allMade() {
		if m.FoMake.Sheets > 1 {
			continue
		}
		columns, rows := sides(m.folds)
		var lists [2][]int
		for half := range lists {
			list, e := fold.Marked(m.FoPress, m.FoMake, []int{half})
			n := len(list)
			if e != api.OK || n != 1 && n != 2 && n != 4 && (n != 0 || !m.Half) {
				t.Errorf("%v: Marked = %v, %d", m, list, e)
			}
			if n == 0 {
				none++
			}
			lists[half] = list
		}
		if columns == 1 {
			if !slices.Equal(lists[0], lists[1]) {
				t.Errorf("%v, of %d rows: %v", m, rows, lists)
			}
			continue
		}
		for _, i := range lists[0] {
			if slices.Contains(lists[1], i) {
				t.Errorf("%v: leaf %d has both halves' marks", m, i)
			}
		}
	}
	if none == 0 {
		t.Error("each half-sheet has a mark")
	}
}
