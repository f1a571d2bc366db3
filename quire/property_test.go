package quire_test

import (
	"slices"
	"strings"
	"testing"

	"duodecimo/api"
	"duodecimo/quire"
)

// leavesOf are the leaves of a book without an error.
func leavesOf(t *testing.T, b api.QuBook) []api.QuLeaf {
	t.Helper()
	list, e := quire.Leaves(b)
	if e != api.OK {
		t.Fatalf("Leaves(%v): %d", b, e)
	}
	return list
}

// changed is a book whose gathering has one change.
func changed(b api.QuBook, gathering int, c api.QuChange) api.QuBook {
	b = cloned(b)
	b.Gatherings[gathering].Changes = []api.QuChange{c}
	return b
}

// P1.14: if a leaf is taken out, all behind it are one place farther to the front, and its mate has none.
func TestTakenOut(t *testing.T) {
	for _, b := range books() {
		for i, g := range b.Gatherings {
			b = cloned(b)
			b.Gatherings[i].Changes = nil
			whole := leavesOf(t, b)
			first := slices.Index(whole, api.QuLeaf{Gathering: i, Number: 1})
			for at := 1; at <= g.Leaves; at++ {
				out := changed(b, i, less(at))
				n := first + at - 1
				if !slices.Equal(leavesOf(t, out), slices.Delete(slices.Clone(whole), n, n+1)) {
					t.Errorf("leaves of %v without leaf %d", b, n)
				}
				if g.Leaves == 1 {
					continue
				}
				mate := first + g.Leaves - at
				if mate > n {
					mate--
				}
				if m, e := quire.Mate(out, mate); m != 0 || e != api.ErrNone {
					t.Errorf("Mate(%v, %d) = %d, %d", out, mate, m, e)
				}
			}
		}
	}
}

// P1.14: if a leaf is replaced, no leaf moves.
func TestReplaced(t *testing.T) {
	for _, b := range books() {
		for i, g := range b.Gatherings {
			b = cloned(b)
			b.Gatherings[i].Changes = nil
			whole := leavesOf(t, b)
			for at := 1; at <= g.Leaves; at++ {
				other := changed(b, i, swap(at))
				if n, e := quire.Differ(b, other); n != 0 || e != api.ErrNone {
					t.Errorf("Differ(%v, %v) = %d, %d", b, other, n, e)
				}
				want := slices.Clone(whole)
				n := slices.Index(want, api.QuLeaf{Gathering: i, Number: at})
				want[n].Kind = api.QuCancel
				if !slices.Equal(leavesOf(t, other), want) {
					t.Errorf("leaves of %v with another leaf %d", b, n)
				}
			}
		}
	}
}

// P1.15: without gatherings at its end a book has the first ones of its leaves.
func TestBeginning(t *testing.T) {
	for _, b := range books() {
		whole := leavesOf(t, b)
		for n := 1; n <= len(b.Gatherings); n++ {
			short := leavesOf(t, api.QuBook{Signed: b.Signed, Gatherings: b.Gatherings[:n]})
			if len(short) > len(whole) || !slices.Equal(short, whole[:len(short)]) {
				t.Errorf("%v begins otherwise without all behind gathering %d", b, n)
			}
		}
	}
}

// P1.16: no argument is changed, and a result that is overwritten changes nothing.
func TestMemory(t *testing.T) {
	for _, b := range books() {
		before := cloned(b)
		text, _ := quire.Write(b)
		for range 2 {
			list := leavesOf(t, b)
			signs, _ := quire.Signs(b)
			if !slices.Equal(list, bound(before)) {
				t.Fatalf("Leaves(%v) = %v", before, list)
			}
			overwrite(list)
			overwrite(signs)
			errorsOf(b)
			quire.Find(b, "A1")
			quire.Leaf(b, 0)
			quire.Mate(b, 0)
			quire.Differ(b, example())
			quire.Check(b)
			if !sameBook(b, before) {
				t.Fatalf("%v became %v", before, b)
			}
		}
		for range 2 {
			m, e := quire.Read(text)
			if e != api.OK || !sameBook(m, b) {
				t.Fatalf("Read(%q) = %v, %d", text, m, e)
			}
			for i := range m.Gatherings {
				kept := cloned(m)
				overwrite(m.Gatherings[i].Changes)
				kept.Gatherings[i].Changes = m.Gatherings[i].Changes
				if !sameBook(m, kept) {
					t.Fatalf("the changes of %q share memory", text)
				}
			}
			overwrite(m.Gatherings)
		}
	}
}

// overwrite puts zeros over all of a slice, and over what lies behind it.
func overwrite[T any](list []T) {
	clear(list[:cap(list)])
}

// P1.16, P1: an argument with spare capacity is not written into.
func TestSpareCapacity(t *testing.T) {
	room := []api.QuGathering{folded(sigA, 8, less(1)), folded(sigB, 8), folded(sigC, 8)}
	short := api.QuBook{Gatherings: room[:1:3]}
	short.Gatherings[0].Changes = append(make([]api.QuChange, 0, 4), less(1))
	errorsOf(short)
	quire.Check(short)
	spare := short.Gatherings[0].Changes[:4]
	if room[1].Sig != sigB || room[2].Sig != sigC || spare[1] != (api.QuChange{}) {
		t.Errorf("written behind the arguments: %v, %v", room, spare)
	}
}

// P1.16, P1: any strings are accepted.
func TestAnyText(t *testing.T) {
	for _, s := range []string{"\x00", "\xff\xfe", strings.Repeat("(", 999), strings.Repeat("A1 ", 300), strings.Repeat("9", 1000), strings.Repeat("A-3Z12 ", 142) + "$0", "A8 $\x00"} {
		if _, e := quire.Read(s); e != api.ErrForm {
			t.Errorf("Read(%q): %d", s, e)
		}
		if _, e := quire.Find(example(), s); e != api.ErrForm {
			t.Errorf("Find(%q): %d", s, e)
		}
		if quire.Name(s) {
			t.Errorf("%q is no name", s)
		}
	}
}
