package quire_test

import (
	"math"
	"slices"
	"strconv"
	"strings"
	"testing"

	"duodecimo/api"
	"duodecimo/quire"
)

// P1.4: all leaves, in their order and with their kinds.
func TestLeaves(t *testing.T) {
	odd := book(1,
		folded(sig(2, api.QuPi), 2, plus(0, 2), swap(1), plus(1, 1)),
		folded(sig(3, 0), 2, less(1), less(2)),
		folded(sig(3, 1), 1, less(1), plus(1, 3)))
	want := []api.QuLeaf{
		{Gathering: 0, Number: 0, Plus: 1, Kind: api.QuNew},
		{Gathering: 0, Number: 0, Plus: 2, Kind: api.QuNew},
		{Gathering: 0, Number: 1, Plus: 0, Kind: api.QuCancel},
		{Gathering: 0, Number: 1, Plus: 1, Kind: api.QuNew},
		{Gathering: 0, Number: 2, Plus: 0, Kind: api.QuOwn},
		{Gathering: 2, Number: 1, Plus: 1, Kind: api.QuNew},
		{Gathering: 2, Number: 1, Plus: 2, Kind: api.QuNew},
		{Gathering: 2, Number: 1, Plus: 3, Kind: api.QuNew},
	}
	if list, e := quire.Leaves(odd); !slices.Equal(list, want) || e != api.OK {
		t.Errorf("Leaves = %v, %d", list, e)
	}
	if list, e := quire.Leaves(book(0, folded(sigA, 1, less(1)))); len(list) != 0 || e != api.OK {
		t.Errorf("Leaves = %v, %d", list, e)
	}
	for _, b := range books() {
		if list, e := quire.Leaves(b); !slices.Equal(list, bound(b)) || e != api.OK {
			t.Errorf("Leaves(%v) = %v, %d", b, list, e)
		}
	}
}

// P1.4: the chapter's examples.
func TestLeafExamples(t *testing.T) {
	for n, want := range map[int]string{0: "pi1", 2: "A1", 9: "A8", 10: "B1", 26: "D1", 27: "D2", 28: "D4", 29: "D5", 30: "D6", 31: "D7", 32: "D8", 33: "D8+1", 34: "chi1"} {
		if s, e := quire.Leaf(example(), n); s != want || e != api.OK {
			t.Errorf("Leaf(%d) = %q, %d, not %q", n, s, e, want)
		}
		if m, e := quire.Find(example(), want); m != n || e != api.OK {
			t.Errorf("Find(%q) = %d, %d, not %d", want, m, e, n)
		}
	}
	for s, want := range map[string]api.Errno{"D3": api.ErrNone, "D03": api.ErrForm} {
		if n, e := quire.Find(example(), s); n != 0 || e != want {
			t.Errorf("Find(%q) = %d, %d", s, n, e)
		}
	}
}

// P1.4: numbers that no leaf has.
func TestNoLeaf(t *testing.T) {
	for _, b := range books() {
		for _, n := range []int{-1, len(bound(b)), len(bound(b)) + 1, math.MaxInt, math.MinInt} {
			if s, e := quire.Leaf(b, n); s != "" || e != api.ErrNone {
				t.Errorf("Leaf(%d) = %q, %d", n, s, e)
			}
			if m, e := quire.Mate(b, n); m != 0 || e != api.ErrNone {
				t.Errorf("Mate(%d) = %d, %d", n, m, e)
			}
		}
	}
}

// P1.4: names that some book, but not this one, has a leaf of, and texts that are no names of leaves.
func TestFindErrors(t *testing.T) {
	for _, s := range []string{"D3", "D8+2", "D8+4", "E1", "pi3", "pi12", "2pi1", "3chi12+4", "A9", "A12", "A0+1", "A0+4", "A1+1", "A1+4", "D3+1", "Z1", "3Z1", "2A1"} {
		if n, e := quire.Find(example(), s); n != 0 || e != api.ErrNone {
			t.Errorf("Find(%q) = %d, %d", s, n, e)
		}
	}
	for _, s := range []string{
		"", "A", "1", "+1", "A0", "pi0", "3Z0", "A13", "A99", "A112", "A18446744073709551617", "A0+0", "A1+0", "A0+5", "A1+5", "A1+12", "A1+18446744073709551617", "A13+1",
		"A01", "A00", "A00+1", "A1+01", "A1+00", "A+1", "A1+", "A1++1", "A1+1+1", "A-1", "A+", "A1-1", "A1+-1", "A=1", "A1(-1)", "A8 $0",
		" A1", "A1 ", "A 1", "A1 +1", "A1\n", "a1", "J1", "U1", "W1", "1A1", "0A1", "4A1", "22A1", "02A1", "AA1", "Pi1", "PI1", "p1", "ch1", "1pi1", "4chi1", "A1é", "é1", "\xff", "A１",
		strings.Repeat("A", 1<<16), "A1" + strings.Repeat("0", 1<<16),
	} {
		if n, e := quire.Find(example(), s); n != 0 || e != api.ErrForm {
			t.Errorf("Find(%q) = %d, %d", s, n, e)
		}
	}
}

// P1.4: any text from a signature, a number and a plus sign is found just where a leaf is written so.
func TestFindAll(t *testing.T) {
	for _, b := range edgeBooks() {
		numbers := map[string]int{}
		for n, l := range bound(b) {
			numbers[written(b, l)] = n
		}
		for i := range 75 {
			for number := range api.MaxQuLeaves + 3 {
				for plus := range api.MaxQuPlus + 3 {
					s := sigWritten(placed(i)) + strconv.Itoa(number)
					if plus > 0 {
						s += "+" + strconv.Itoa(plus)
					}
					n, is := numbers[s]
					want := api.OK
					if number > api.MaxQuLeaves || plus > api.MaxQuPlus || number == 0 && plus == 0 {
						want = api.ErrForm
					} else if !is {
						want = api.ErrNone
					}
					if m, e := quire.Find(b, s); m != n || e != want {
						t.Fatalf("Find(%v, %q) = %d, %d, not %d, %d", b, s, m, e, n, want)
					}
				}
			}
		}
	}
}

// P1.8: a leaf is found by how it is written, and no two are written alike.
func TestOnePlace(t *testing.T) {
	for _, b := range books() {
		seen := map[string]bool{}
		for n, l := range bound(b) {
			s, e := quire.Leaf(b, n)
			if s != written(b, l) || e != api.OK || seen[s] {
				t.Errorf("Leaf(%v, %d) = %q, %d", b, n, s, e)
			}
			seen[s] = true
			if m, e := quire.Find(b, s); m != n || e != api.OK {
				t.Errorf("Find(%v, %q) = %d, %d, not %d", b, s, m, e, n)
			}
		}
	}
}

// P1.10: the order of leaves, and how many there are.
func TestInOrder(t *testing.T) {
	for _, b := range books() {
		list, e := quire.Leaves(b)
		if e != api.OK {
			t.Fatalf("Leaves(%v): %d", b, e)
		}
		ascending := slices.IsSortedFunc(list, func(x, y api.QuLeaf) int {
			return slices.Compare([]int{x.Gathering, x.Number, x.Plus}, []int{y.Gathering, y.Number, y.Plus})
		})
		many := 0
		for _, g := range b.Gatherings {
			many += g.Leaves
			for _, c := range g.Changes {
				many += c.Many
				if c.Kind == api.QuLess {
					many--
				}
			}
		}
		if !ascending || len(list) != many {
			t.Errorf("Leaves(%v) = %v", b, list)
		}
	}
}

// P1.5: the chapter's examples, and other leaves with and without mates.
func TestMateExamples(t *testing.T) {
	for n, want := range map[int]int{0: 1, 1: 0, 2: 9, 9: 2, 5: 6, 6: 5, 13: 14, 26: 32, 32: 26, 27: 31, 31: 27} {
		if m, e := quire.Mate(example(), n); m != want || e != api.OK {
			t.Errorf("Mate(%d) = %d, %d, not %d", n, m, e, want)
		}
	}
	for _, n := range []int{28, 29, 30, 33, 34} {
		if m, e := quire.Mate(example(), n); m != 0 || e != api.ErrNone {
			t.Errorf("Mate(%d) = %d, %d", n, m, e)
		}
	}
	put := book(0, folded(sigA, 2, plus(0, 1), plus(1, 1), plus(2, 1)))
	for n, want := range map[int]int{1: 3, 3: 1} {
		if m, e := quire.Mate(put, n); m != want || e != api.OK {
			t.Errorf("Mate(%d) = %d, %d, not %d", n, m, e, want)
		}
	}
	for _, n := range []int{0, 2, 4} {
		if m, e := quire.Mate(put, n); m != 0 || e != api.ErrNone {
			t.Errorf("Mate(%d) = %d, %d", n, m, e)
		}
	}
}

// P1.5, P1.11: mates are mates of each other, of one gathering, and symmetrical about its middle.
func TestMates(t *testing.T) {
	for _, b := range books() {
		list := bound(b)
		for n, l := range list {
			g := b.Gatherings[l.Gathering]
			want := slices.IndexFunc(list, func(o api.QuLeaf) bool {
				return o.Gathering == l.Gathering && o.Number+l.Number == g.Leaves+1 && o.Kind == api.QuOwn && l.Kind == api.QuOwn && o != l
			})
			m, e := quire.Mate(b, n)
			if want < 0 {
				if m != 0 || e != api.ErrNone {
					t.Errorf("Mate(%v, %d) = %d, %d", b, n, m, e)
				}
				if len(g.Changes) == 0 && g.Leaves > 1 {
					t.Errorf("leaf %d of %v has no mate", n, b)
				}
				continue
			}
			back, f := quire.Mate(b, m)
			if m != want || e != api.OK || back != n || f != api.OK {
				t.Errorf("Mate(%v, %d) = %d, %d; its mate %d, %d", b, n, m, e, back, f)
			}
		}
	}
}

// P1.5: the chapter's example, and leaves that are cancelled, taken out or put in.
func TestSignsExamples(t *testing.T) {
	change := book(2, folded(sig(1, api.QuPi), 4), folded(sigA, 4, plus(0, 1), swap(1), plus(1, 2), swap(2)), folded(sig(3, 22), 4, less(2)), folded(sig(2, api.QuChi), 4))
	for i, c := range []struct {
		b    api.QuBook
		want []int
	}{
		{example(), []int{2, 3, 4, 5, 10, 11, 12, 13, 18, 19, 20, 21, 26, 27, 28}},
		{change, []int{5, 8, 11}},
		{book(0, folded(sigA, 8)), nil},
		{book(1, folded(sigA, 8)), []int{0}},
		{book(12, folded(sigA, 4), folded(sig(1, api.QuPi), 2), folded(sigB, 1)), []int{0, 1, 2, 3, 6}},
	} {
		if list, e := quire.Signs(c.b); !slices.Equal(list, c.want) || e != api.OK {
			t.Errorf("%d: Signs = %v, %d, not %v", i, list, e, c.want)
		}
	}
}

// P1.5, P1.12: which leaves are signed; with a greater Signed none of them is signed no more, and none of pi and chi ever is.
func TestSigns(t *testing.T) {
	for _, b := range books() {
		var before []int
		for signed := range api.MaxQuLeaves + 1 {
			b.Signed = signed
			var want []int
			for n, l := range bound(b) {
				if b.Gatherings[l.Gathering].Sig.Letter < api.QuPi && l.Plus == 0 && l.Number <= signed {
					want = append(want, n)
				}
			}
			list, e := quire.Signs(b)
			if !slices.Equal(list, want) || e != api.OK {
				t.Errorf("Signs(%v) = %v, %d, not %v", b, list, e, want)
			}
			for _, n := range before {
				if !slices.Contains(list, n) {
					t.Errorf("leaf %d of %v is signed no more", n, b)
				}
			}
			before = list
		}
	}
}

// P1.6: the chapter's examples, and which leaves are written otherwise.
func TestDifferExamples(t *testing.T) {
	for i, x := range []struct {
		a, b api.QuBook
		want int
		e    api.Errno
	}{
		{example(), example(), 0, api.ErrNone},
		{example(), without(2), 33, api.OK},
		{without(2), example(), 33, api.OK},
		{example(), without(1), 0, api.ErrNone},
		{example(), without(0), 28, api.OK},
		{book(0, folded(sigA, 4, less(3), less(4))), book(5, folded(sigA, 2)), 0, api.ErrNone},
		{book(0, folded(sigA, 4)), book(0, folded(sigA, 6)), 4, api.OK},
		{book(0, folded(sigA, 6)), book(0, folded(sigA, 4)), 4, api.OK},
		{book(0, folded(sigA, 4)), book(0, folded(sigB, 4)), 0, api.OK},
		{book(0, folded(sigA, 4)), book(0, folded(sig(2, 0), 4)), 0, api.OK},
		{book(0, folded(sigA, 1, less(1))), book(0, folded(sig(1, api.QuPi), 2, less(1), less(2))), 0, api.ErrNone},
		{book(0, folded(sigA, 1, less(1))), book(0, folded(sigA, 1)), 0, api.OK},
		{book(0, folded(sigA, 1), folded(sigB, 1, less(1)), folded(sigC, 1)), book(0, folded(sigA, 1), folded(sigC, 1)), 0, api.ErrNone},
		{book(0, folded(sigA, 2, plus(1, 1))), book(0, folded(sigA, 2, plus(1, 2))), 2, api.OK},
		{book(0, folded(sigA, 2, plus(1, 1))), book(0, folded(sigA, 2)), 1, api.OK},
		{book(0, folded(sigA, 2, less(2), plus(2, 1))), book(0, folded(sigA, 2)), 1, api.OK},
	} {
		if n, e := quire.Differ(x.a, x.b); n != x.want || e != x.e {
			t.Errorf("%d: Differ = %d, %d, not %d, %d", i, n, e, x.want, x.e)
		}
	}
}

// P1.6: the error of a comes before that of b.
func TestDifferErrors(t *testing.T) {
	ranged, long := book(-1, folded(sigA, 8)), book(0)
	for i, x := range []struct {
		a, b api.QuBook
		e    api.Errno
	}{{ranged, long, api.ErrRange}, {long, ranged, api.ErrLong}, {example(), long, api.ErrLong}, {long, example(), api.ErrLong}, {example(), ranged, api.ErrRange}} {
		if n, e := quire.Differ(x.a, x.b); n != 0 || e != x.e {
			t.Errorf("%d: Differ = %d, %d, not %d", i, n, e, x.e)
		}
	}
}

// P1.6: any two books.
func TestDiffer(t *testing.T) {
	names := func(b api.QuBook) []string {
		var list []string
		for _, l := range bound(b) {
			list = append(list, written(b, l))
		}
		return list
	}
	all := books()
	for i, x := range all {
		for _, y := range []api.QuBook{x, all[(i*7+1)%len(all)], {Signed: x.Signed, Gatherings: x.Gatherings[:(len(x.Gatherings)+1)/2]}} {
			m, n := names(x), names(y)
			first := 0
			for first < len(m) && first < len(n) && m[first] == n[first] {
				first++
			}
			want := api.OK
			if first == len(m) && first == len(n) {
				first, want = 0, api.ErrNone
			}
			if d, e := quire.Differ(x, y); d != first || e != want {
				t.Errorf("Differ(%v, %v) = %d, %d, not %d, %d", x, y, d, e, first, want)
			}
		}
	}
}
