package quire_test

import (
	"math"
	"math/rand"
	"strings"
	"testing"

	"duodecimo/api"
	"duodecimo/quire"
)

// P1.1: names.
func TestName(t *testing.T) {
	for _, s := range []string{"a", "z", "m", "a0", "a9", "a.", "z..", "ab.c9", strings.Repeat("q", api.MaxName)} {
		if !quire.Name(s) {
			t.Errorf("%q is a name", s)
		}
	}
	for _, s := range []string{"", ".", "0", "9a", ".a", "A", "Z", "aZ", "a b", " a", "a ", "a-", "a_", "a/", "a:", "a`", "a{", "`", "{", "a\x00", "a\xff", "\xff", "aé", "é", strings.Repeat("q", api.MaxName+1), strings.Repeat("q", 1<<16)} {
		if quire.Name(s) {
			t.Errorf("%q is no name", s)
		}
	}
	for c := range 256 {
		inner := c >= 'a' && c <= 'z' || c >= '0' && c <= '9' || c == '.'
		if s := "a" + string([]byte{byte(c)}) + "b"; quire.Name(s) != inner {
			t.Errorf("Name(%q) = %v", s, !inner)
		}
		if s := string([]byte{byte(c)}) + "b"; quire.Name(s) != (c >= 'a' && c <= 'z') {
			t.Errorf("Name(%q) is wrong", s)
		}
	}
}

// checkCase is a book and what Check says of it.
type checkCase struct {
	b        api.QuBook
	part, at int
	e        api.Errno
}

// testChecks holds Check, and the errors of all other functions with a book, against cases.
func testChecks(t *testing.T, cases []checkCase) {
	t.Helper()
	for i, c := range cases {
		part, at, e := quire.Check(c.b)
		if part != c.part || at != c.at || e != c.e {
			t.Errorf("%d: Check(%v) = %d, %d, %d, not %d, %d, %d", i, c.b, part, at, e, c.part, c.at, c.e)
		}
		if c.e == api.OK {
			continue
		}
		for name, e := range errorsOf(c.b) {
			if e != c.e {
				t.Errorf("%d: %s: error %d, not %d", i, name, e, c.e)
			}
		}
	}
}

var sigA, sigB, sigC = sig(1, 0), sig(1, 1), sig(1, 2)

// P1.1: Signed, and how many gatherings there are.
func TestCheckBook(t *testing.T) {
	long := api.QuBook{Gatherings: make([]api.QuGathering, api.MaxQuGatherings+1)}
	tooLong := api.QuBook{Signed: 99, Gatherings: long.Gatherings}
	testChecks(t, []checkCase{
		{example(), 0, 0, api.OK},
		{book(0, folded(sigA, 8)), 0, 0, api.OK},
		{book(12, folded(sigA, 8)), 0, 0, api.OK},
		{book(-1, folded(sigA, 8)), 1, 0, api.ErrRange},
		{book(13, folded(sigA, 8)), 1, 0, api.ErrRange},
		{book(math.MaxInt, folded(sigA, 8)), 1, 0, api.ErrRange},
		{book(math.MinInt, folded(sigA, 8)), 1, 0, api.ErrRange},
		{book(-1), 1, 0, api.ErrRange},
		{book(13, folded(sig(0, 0), 0)), 1, 0, api.ErrRange},
		{book(0), 1, 0, api.ErrLong},
		{book(12), 1, 0, api.ErrLong},
		{long, 1, 0, api.ErrLong},
		{tooLong, 1, 0, api.ErrRange},
	})
	for i, b := range books() {
		if part, at, e := quire.Check(b); part != 0 || at != 0 || e != api.OK {
			t.Errorf("%d: Check(%v) = %d, %d, %d", i, b, part, at, e)
		}
	}
}

// P1.1: signatures, leaves and how many changes there are, and which of these errors comes first.
func TestCheckGatherings(t *testing.T) {
	many := make([]api.QuChange, api.MaxQuChanges+1)
	var cases []checkCase
	for _, s := range []api.QuSig{sig(0, 0), sig(4, 0), sig(-1, 0), sig(1, -1), sig(1, 25), sig(0, 23), sig(4, 24), sig(math.MaxInt, 0), sig(1, math.MinInt), sig(math.MinInt, math.MaxInt)} {
		cases = append(cases, checkCase{book(0, folded(sigA, 8), folded(s, 3, many...)), 2, 1, api.ErrRange}, checkCase{book(0, folded(s, 8)), 2, 0, api.ErrRange})
	}
	for _, n := range []int{0, -1, -2, 3, 5, 7, 9, 11, 13, 14, 16, math.MaxInt, math.MaxInt - 1, math.MinInt, math.MinInt + 1} {
		cases = append(cases, checkCase{book(0, folded(sigA, 1), folded(sigB, n, many...)), 2, 1, api.ErrRange})
	}
	for _, n := range []int{1, 2, 4, 6, 8, 10, 12} {
		cases = append(cases, checkCase{book(0, folded(sigA, n)), 0, 0, api.OK})
	}
	testChecks(t, append(cases, []checkCase{
		{book(0, folded(sigA, 8), folded(sigA, 8)), 2, 1, api.ErrTwice},
		{book(0, folded(sigA, 8), folded(sigB, 8), folded(sigA, 3, many...)), 2, 2, api.ErrTwice},
		{book(0, folded(sig(2, 23), 2), folded(sigA, 8), folded(sig(2, 23), 2)), 2, 2, api.ErrTwice},
		{book(0, folded(sig(1, 24), 2), folded(sig(1, 24), 2)), 2, 1, api.ErrTwice},
		{book(0, folded(sigB, 8), folded(sigA, 3, many...)), 2, 1, api.ErrArg},
		{book(0, folded(sig(2, 0), 8), folded(sig(1, 22), 8)), 2, 1, api.ErrArg},
		{book(0, folded(sigB, 8), folded(sig(1, 23), 2), folded(sigA, 8)), 2, 2, api.ErrArg},
		{book(0, folded(sigB, 8), folded(sigA, 8), folded(sigB, 8)), 2, 1, api.ErrArg},
		{book(0, folded(sigA, 8), folded(sigC, 8), folded(sigB, 8), folded(sig(0, 0), 8)), 2, 2, api.ErrArg},
		{book(0, folded(sig(3, 24), 2), folded(sigA, 8), folded(sig(3, 23), 2), folded(sig(1, 24), 2), folded(sig(3, 22), 8), folded(sig(1, 23), 2)), 0, 0, api.OK},
		{book(0, folded(sigA, 8), folded(sig(2, 0), 8), folded(sig(3, 0), 8)), 0, 0, api.OK},
		{book(0, folded(sigA, 8, many...)), 2, 0, api.ErrLong},
		{book(0, folded(sigA, 8), folded(sigB, 8, many...), folded(sigA, 8)), 2, 1, api.ErrLong},
		{book(0, folded(sigA, 8, less(1), less(2), less(3), less(4))), 0, 0, api.OK},
		{book(0, folded(sigA, 8, less(1), less(2), less(3), less(4), less(5))), 2, 0, api.ErrLong},
	}...))
}

// P1.1: changes, and which of their errors comes first.
func TestCheckChanges(t *testing.T) {
	var cases []checkCase
	say := func(e api.Errno, leaves int, list ...api.QuChange) {
		if e == api.OK {
			cases = append(cases, checkCase{book(0, folded(sigA, leaves, list...)), 0, 0, e})
			return
		}
		cases = append(cases, checkCase{book(0, folded(sigA, 8), folded(sigB, leaves, list...), folded(sigA, 3)), 2, 1, e})
	}
	for _, kind := range []int{0, 4, -1, math.MaxInt, math.MinInt} {
		say(api.ErrForm, 8, api.QuChange{Kind: kind, At: 1})
		say(api.ErrForm, 8, less(2), api.QuChange{Kind: kind, At: 99, Many: 99})
	}
	for _, at := range []int{0, 9, -1, math.MaxInt, math.MinInt} {
		say(api.ErrRange, 8, less(at))
		say(api.ErrRange, 8, swap(at))
	}
	for _, at := range []int{-1, 9, math.MaxInt, math.MinInt} {
		say(api.ErrRange, 8, plus(at, 1))
	}
	for _, many := range []int{0, 5, -1, math.MaxInt, math.MinInt} {
		say(api.ErrRange, 8, plus(3, many))
	}
	for _, many := range []int{1, -1, 4, math.MaxInt, math.MinInt} {
		say(api.ErrRange, 8, api.QuChange{Kind: api.QuLess, At: 3, Many: many})
		say(api.ErrRange, 8, api.QuChange{Kind: api.QuSwap, At: 3, Many: many})
	}
	for _, n := range []int{1, 2, 12} {
		say(api.OK, n, less(1))
		say(api.OK, n, swap(n))
		say(api.OK, n, less(n))
		say(api.OK, n, plus(0, 1))
		say(api.OK, n, plus(n, 4))
		say(api.ErrRange, n, less(n+1))
		say(api.ErrRange, n, plus(n+1, 1))
	}
	say(api.OK, 8, plus(0, 1), less(1), plus(1, 2), swap(8))
	say(api.OK, 8, less(2), plus(2, 1))
	say(api.OK, 8, swap(2), plus(2, 1))
	say(api.OK, 8, plus(1, 1), plus(2, 1))
	say(api.ErrArg, 8, less(2), less(2))
	say(api.ErrArg, 8, less(2), swap(2))
	say(api.ErrArg, 8, swap(2), less(2))
	say(api.ErrArg, 8, swap(2), swap(2))
	say(api.ErrArg, 8, plus(2, 1), less(2))
	say(api.ErrArg, 8, plus(2, 1), swap(2))
	say(api.ErrArg, 8, plus(2, 1), plus(2, 1))
	say(api.ErrArg, 8, less(2), plus(2, 1), plus(2, 1))
	say(api.ErrArg, 8, less(3), less(2))
	say(api.ErrArg, 8, swap(3), plus(2, 1))
	say(api.ErrArg, 8, less(3), less(2), api.QuChange{})
	say(api.ErrForm, 8, less(3), api.QuChange{}, less(2))
	say(api.ErrRange, 8, less(3), less(9), less(2))
	say(api.ErrRange, 8, less(3), plus(2, 5))
	testChecks(t, cases)
}

// P1.1: the first gathering with an error decides, and of its errors the one named first.
func TestCheckFirst(t *testing.T) {
	spoil := []struct {
		do func(b api.QuBook, i int)
		e  api.Errno
	}{
		{func(b api.QuBook, i int) { b.Gatherings[i].Sig.Round = 0 }, api.ErrRange},
		{func(b api.QuBook, i int) { b.Gatherings[i].Sig.Letter = 25 }, api.ErrRange},
		{func(b api.QuBook, i int) { b.Gatherings[i].Sig = b.Gatherings[i-1].Sig }, api.ErrTwice},
		{func(b api.QuBook, i int) { b.Gatherings[i].Leaves = 7 }, api.ErrRange},
		{func(b api.QuBook, i int) { b.Gatherings[i].Changes = make([]api.QuChange, 5) }, api.ErrLong},
		{func(b api.QuBook, i int) { b.Gatherings[i].Changes = make([]api.QuChange, 1) }, api.ErrForm},
	}
	r := rand.New(rand.NewSource(2))
	for range 500 {
		b := cloned(someBook(r, api.MaxQuGatherings))
		n := len(b.Gatherings)
		if n < 3 {
			continue
		}
		first := 1 + r.Intn(n-2)
		s := spoil[r.Intn(len(spoil))]
		for i := first + 1; i < n; i++ {
			spoil[r.Intn(len(spoil))].do(b, i)
		}
		s.do(b, first)
		if part, at, e := quire.Check(b); part != 2 || at != first || e != s.e {
			t.Errorf("Check(%v) = %d, %d, %d, not 2, %d, %d", b, part, at, e, first, s.e)
		}
	}
}

// R2: with an error all other results are zero.
func TestZeroWithError(t *testing.T) {
	bad := book(13, folded(sigA, 8))
	text, _ := quire.Write(bad)
	list, _ := quire.Leaves(bad)
	leaf, _ := quire.Leaf(bad, 0)
	found, _ := quire.Find(bad, "A2")
	mate, _ := quire.Mate(bad, 0)
	signs, _ := quire.Signs(bad)
	first, _ := quire.Differ(book(0, folded(sigA, 8)), book(0, folded(sigA, 0)))
	if text != "" || len(list) != 0 || leaf != "" || found != 0 || mate != 0 || len(signs) != 0 || first != 0 {
		t.Errorf("%q, %v, %q, %d, %d, %v, %d", text, list, leaf, found, mate, signs, first)
	}
}
