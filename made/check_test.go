package made_test

import (
	"fmt"
	"slices"
	"strings"
	"testing"

	"duodecimo/api"
	"duodecimo/made"
)

// checked is a set, and what Check returns.
type checked struct {
	s        api.MaSet
	part, at int
	e        api.Errno
}

// A leaf and a copy with all errors that one can have.
var (
	worstLeaf = api.MaLeaf{Mate: -2, Share: -1}
	worstCopy = api.MaCopy{Has: []int{-1}}
)

// leaves is the example with other leaves, and an error behind them.
func leaves(some ...api.MaLeaf) api.MaSet {
	return but(func(s *api.MaSet) { s.Leaves, s.Copies = some, []api.MaCopy{worstCopy} })
}

// copies is the example with other copies.
func copies(some ...api.MaCopy) api.MaSet { return but(func(s *api.MaSet) { s.Copies = some }) }

// errorIf is one of two errors.
func errorIf(isSo bool, e, other api.Errno) api.Errno {
	if isSo {
		return e
	}
	return other
}

// checkedIf is a set with an error behind what is looked at if this is so, otherwise one with an error there.
func checkedIf(isSo bool, s api.MaSet, part, at int, e api.Errno, behind checked) checked {
	if isSo {
		return checked{s, behind.part, behind.at, behind.e}
	}
	return checked{s, part, at, e}
}

// badName is the name of the last one of some things, those of the others, and its error.
type badName struct {
	others []string
	name   string
	e      api.Errno
}

// names is a list of names.
func names(some ...string) []string { return some }

// badNames are names with errors, and without.
func badNames() []badName {
	long := strings.Repeat("a", api.MaxName)
	all := []badName{{nil, "a", api.OK}, {names("a", "b"), "c", api.OK}, {names("a"), "a.1", api.OK}, {names("a"), long, api.OK}, {names("a", "b"), "b", api.ErrTwice}, {names("a", "b"), "a", api.ErrTwice}, {names("a", "b", "c"), "a", api.ErrTwice}, {names(long), long, api.ErrTwice}}
	for _, name := range []string{"", "A", "1a", ".a", "a b", "a\xff", "ä", "a-", "a\n", long + "a"} {
		all = append(all, badName{nil, name, api.ErrForm}, badName{names("a"), name, api.ErrForm})
	}
	return all
}

// checkedPrices are sets with errors of the price; the next error is that of the leaves.
func checkedPrices() []checked {
	var all []checked
	for _, n := range numbers(0, api.MaxMaPrice) {
		s := api.MaSet{Price: n, Copies: []api.MaCopy{worstCopy}}
		all = append(all, checkedIf(n >= 0 && n <= api.MaxMaPrice, s, 1, 0, api.ErrRange, checked{part: 2, e: api.ErrLong}))
	}
	return all
}

// checkedLeaves are sets with errors of leaves; the next error is that of a copy.
func checkedLeaves() []checked {
	next := checked{part: 3, at: 0, e: api.ErrForm}
	good, many := leaf("a", none, 0), make([]api.MaLeaf, api.MaxMaLeaves+1)
	pair := []api.MaLeaf{leaf("a", 2, 0), leaf("b", none, 0), leaf("c", 0, 0)}
	all := []checked{
		{leaves(), 2, 0, api.ErrLong}, {leaves(many...), 2, 0, api.ErrLong}, {leaves(append(full().Leaves, leaf("x", none, 0))...), 2, 0, api.ErrLong}, {leaves(make([]api.MaLeaf, 1<<16)...), 2, 0, api.ErrLong}, {leaves(full().Leaves...), 3, 0, api.ErrForm}, {leaves(good), 3, 0, api.ErrForm}, {leaves(pair...), 3, 0, api.ErrForm},
		{leaves(good, worstLeaf, worstLeaf), 2, 1, api.ErrForm}, {leaves(worstLeaf), 2, 0, api.ErrForm}, {leaves(good, leaf("a", -2, -1), worstLeaf), 2, 1, api.ErrTwice}, {leaves(good, leaf("b", -2, -1), worstLeaf), 2, 1, api.ErrNone}, {leaves(good, leaf("b", 3, 0), worstLeaf), 2, 1, api.ErrNone},
		{leaves(good, leaf("b", 1, -1), worstLeaf), 2, 1, api.ErrArg}, {leaves(good, leaf("b", 0, -1), worstLeaf), 2, 1, api.ErrArg}, {leaves(good, leaf("b", 2, 1001), leaf("c", none, 0)), 2, 1, api.ErrArg}, {leaves(good, leaf("b", 2, -1), leaf("c", 1, -1)), 2, 1, api.ErrRange},
		{leaves(leaf("a", 1, 0), leaf("b", 2, 0), leaf("c", 1, 0)), 2, 0, api.ErrArg}, {leaves(leaf("a", 1, 0), leaf("b", 0, 0), leaf("c", 1, 0)), 2, 2, api.ErrArg}, {leaves(leaf("a", 1, 0), leaf("b", none, 0)), 2, 0, api.ErrArg}, {leaves(leaf("a", 1, 0), leaf("b", 2, 0), leaf("c", 0, 0)), 2, 0, api.ErrArg},
		// A leaf is looked at before the one that is its mate.
		{leaves(leaf("a", 1, 0), worstLeaf), 2, 0, api.ErrArg}, {leaves(leaf("a", 1, 0), api.MaLeaf{Mate: 0}), 2, 1, api.ErrForm}, {leaves(leaf("a", 1, 1001), api.MaLeaf{Mate: 0}), 2, 0, api.ErrRange}, {leaves(leaf("a", 1, 0), leaf("a", 0, 0)), 2, 1, api.ErrTwice},
	}
	for _, x := range badNames() {
		var some []api.MaLeaf
		for _, name := range append(slices.Clone(x.others), x.name) {
			some = append(some, leaf(name, none, 0))
		}
		all = append(all, checkedIf(x.e == api.OK, leaves(some...), 2, len(x.others), x.e, next))
	}
	for _, n := range numbers(0, 1, 2, 3, api.MaxMaShare) {
		all = append(all, checkedIf(n >= 0 && n <= api.MaxMaShare, leaves(good, leaf("b", none, n)), 2, 1, api.ErrRange, next))
		some := []api.MaLeaf{good, good, good}
		some[0].Name, some[1] = "c", leaf("b", n, 0)
		switch {
		case n == none:
			all = append(all, checked{leaves(some...), 3, 0, api.ErrForm})
		case n < 0 || n > 2:
			all = append(all, checked{leaves(some...), 2, 1, api.ErrNone})
		default:
			all = append(all, checked{leaves(some...), 2, 1, api.ErrArg})
		}
	}
	return all
}

// checkedCopies are sets with errors of copies, and without.
func checkedCopies() []checked {
	good := copied("a", 1, 1, 1, 1, 1)
	many := make([]api.MaCopy, api.MaxMaCopies+1)
	all := []checked{
		{copies(), 3, 0, api.ErrLong}, {copies(many...), 3, 0, api.ErrLong}, {copies(append(full().Copies, good)...), 3, 0, api.ErrLong}, {copies(make([]api.MaCopy, 1<<16)...), 3, 0, api.ErrLong}, {copies(good), 0, 0, api.OK}, {copies(good, copied("b", 0, 0, 0, 0, 0), copied("c", 2, 2, 2, 2, 2), copied("d", 0, 1, 2, 1, 0)), 0, 0, api.OK},
		{copies(good, worstCopy, worstCopy), 3, 1, api.ErrForm}, {copies(worstCopy), 3, 0, api.ErrForm}, {copies(good, copied("a", 3), worstCopy), 3, 1, api.ErrTwice}, {copies(good, copied("b", 3), worstCopy), 3, 1, api.ErrLong}, {copies(good, copied("b", 3, 3, 3, 3), worstCopy), 3, 1, api.ErrLong}, {copies(good, copied("b", 1, 1, 1, 1, 1, 1), worstCopy), 3, 1, api.ErrLong}, {copies(good, copied("b"), worstCopy), 3, 1, api.ErrLong}, {copies(copied("b", make([]int, 1<<16)...)), 3, 0, api.ErrLong},
		{copies(good, copied("b", 1, 1, 1, 1, 3), worstCopy), 3, 1, api.ErrRange}, {copies(good, copied("b", -1, 1, 1, 1, 1), worstCopy), 3, 1, api.ErrRange}, {copies(copied("e", 1, 1, 1, 1, 1)), 0, 0, api.OK}, // the name of a leaf
	}
	for _, x := range badNames() {
		var some []api.MaCopy
		for _, name := range append(slices.Clone(x.others), x.name) {
			some = append(some, copied(name, 1, 1, 1, 1, 1))
		}
		all = append(all, checkedIf(x.e == api.OK, copies(some...), 3, len(x.others), x.e, checked{}))
	}
	for _, n := range numbers(0, api.MaxMaKinds) {
		for k := range 5 {
			c := copied("b", 0, 1, 2, 1, 0)
			c.Has[k] = n
			all = append(all, checkedIf(n >= 0 && n <= api.MaxMaKinds, copies(good, c), 3, 1, api.ErrRange, checked{}))
		}
	}
	return all
}

// allChecked are all sets that Check is held against.
func allChecked() []checked {
	good := []checked{{example(), 0, 0, api.OK}, {full(), 0, 0, api.OK}, {api.MaSet{}, 2, 0, api.ErrLong}, {api.MaSet{Price: -1}, 1, 0, api.ErrRange}, {api.MaSet{Leaves: full().Leaves}, 3, 0, api.ErrLong}}
	return slices.Concat(good, checkedPrices(), checkedLeaves(), checkedCopies())
}

// P11.1: the errors of a set in their order.
func TestCheck(t *testing.T) {
	for i, x := range allChecked() {
		part, at, e := made.Check(x.s)
		if part != x.part || at != x.at || e != x.e {
			t.Errorf("%d: Check(%v) = %d, %d, %d, not %d, %d, %d", i, x.s, part, at, e, x.part, x.at, x.e)
		}
	}
}

// said are the errors of all functions with a set but Check, each called with errors of its own as well, and what they return besides.
func said(s api.MaSet) (errors map[string]api.Errno, results []any) {
	m, d, r, w, v := missing(s, -1), donors(s, -1, -1), most(s, 0), whole(s), worth(s, -1)
	errors = map[string]api.Errno{"Missing": m.e, "Donors": d.e, "Most": r.e, "Whole": w.e, "Worth": v.e}
	return errors, []any{m.missing, m.kind, d.copies, r.many, r.leaf, w.plan, w.whole, w.moved, w.cut, v.worth}
}

// zero reports whether each of some results is its zero value.
func zero(results ...any) bool {
	for _, x := range results {
		switch s := fmt.Sprint(x); s {
		case "0", "[]", "{0 0}":
		default:
			return false
		}
	}
	return true
}

// P11.1: all functions with a set return its error first, and nothing else.
func TestSetFirst(t *testing.T) {
	for i, x := range allChecked() {
		if x.e == api.OK {
			continue
		}
		errors, results := said(x.s)
		for name, e := range errors {
			if e != x.e {
				t.Errorf("%d: %s: %d", i, name, e)
			}
		}
		if !zero(results...) {
			t.Errorf("%d: %v", i, results)
		}
	}
}

// P11.1, P11.5: all that the other tests are about has no error.
func TestCheckCases(t *testing.T) {
	for _, s := range sets() {
		if part, at, e := made.Check(s); part != 0 || at != 0 || e != api.OK {
			t.Errorf("Check(%v) = %d, %d, %d", s, part, at, e)
		}
	}
	for _, h := range hands() {
		if at, e := made.CheckHand(h); at != 0 || e != api.OK {
			t.Errorf("CheckHand(%v) = %d, %d", h, at, e)
		}
	}
}

// P11.2 to P11.4: an index that is none, of the copy or of the leaf; a kind that is none.
func TestIndices(t *testing.T) {
	for i, s := range []api.MaSet{example(), full(), setOf(list(none), list(2))} {
		for _, n := range numbers(0, 1, 3, 4, 6) {
			copy := n >= 0 && n < len(s.Copies)
			want := errorIf(copy, api.OK, api.ErrNone)
			if m := missing(s, n); m.e != want || !copy && !zero(m.missing, m.kind) {
				t.Errorf("%d: Missing of %d = %v", i, n, m)
			}
			if v := worth(s, n); v.e != want || !copy && v.worth != 0 {
				t.Errorf("%d: Worth of %d = %v", i, n, v)
			}
			kind := n == 1 || n == 2
			if m := most(s, n); m.e != errorIf(kind, api.OK, api.ErrRange) || !kind && !zero(m.many, m.leaf) {
				t.Errorf("%d: Most of %d = %v", i, n, m)
			}
			for _, leaf := range numbers(0, 1, 4, 5, 6) {
				good := copy && leaf >= 0 && leaf < len(s.Leaves)
				if d := donors(s, n, leaf); d.e != errorIf(good, api.OK, api.ErrNone) || !good && !zero(d.copies) {
					t.Errorf("%d: Donors of %d, %d = %v", i, n, leaf, d)
				}
			}
		}
	}
}

// checkedHand is a copy in the hand, and what CheckHand returns.
type checkedHand struct {
	h  api.MaHand
	at int
	e  api.Errno
}

// allHands are all copies in the hand that CheckHand is held against.
func allHands() []checkedHand {
	good, worst := seen(0, 1, 1), seen(-1, 0, -1)
	all := []checkedHand{
		{inHand(), 0, api.OK}, {fullHand(), 0, api.OK}, {handOf(good), 0, api.OK}, {handOf(), 0, api.ErrLong}, {handOf(append(fullHand().Leaves, good)...), 0, api.ErrLong}, {handOf(make([]api.MaSeen, api.MaxMaSeen+1)...), 0, api.ErrLong}, {handOf(make([]api.MaSeen, 1<<16)...), 0, api.ErrLong},
		{handOf(worst), 0, api.ErrRange}, {handOf(good, worst, worst), 1, api.ErrRange}, {handOf(good, seen(0, 2, 1), worst), 1, api.ErrArg}, {handOf(good, seen(3, 2, 1), worst), 1, api.ErrRange}, {handOf(good, seen(0, 2, 0), worst), 1, api.ErrRange}, {handOf(good, seen(0, 601, 600), worst), 1, api.ErrRange}, {handOf(good, seen(2, 600, 1), worst), 1, api.ErrArg}, {handOf(good, seen(2, 600, 600), seen(1, 600, 599)), 2, api.ErrArg},
	}
	for _, n := range numbers(0, 1, 5, api.MaxMaKinds, api.MaxMaTall) {
		all = append(all, checkedHand{handOf(good, seen(n, 1, 1)), errorAt(n >= 0 && n <= api.MaxMaKinds), errorIf(n >= 0 && n <= api.MaxMaKinds, api.OK, api.ErrRange)})
		in := n >= 1 && n <= api.MaxMaTall
		all = append(all, checkedHand{handOf(good, seen(1, n, n)), errorAt(in), errorIf(in, api.OK, api.ErrRange)})
		all = append(all, checkedHand{handOf(good, seen(2, n, api.MaxMaTall)), errorAt(in), errorIf(in, api.OK, api.ErrRange)})
		all = append(all, checkedHand{handOf(good, seen(0, 1, n)), errorAt(in), errorIf(in, api.OK, api.ErrRange)})
		all = append(all, checkedHand{handOf(good, seen(0, n, 5)), errorAt(in && n <= 5), errorIf(in && n <= 5, api.OK, errorIf(in, api.ErrArg, api.ErrRange))})
	}
	return all
}

// errorAt is where the error of the second leaf is, if it is not good.
func errorAt(isGood bool) int {
	if isGood {
		return 0
	}
	return 1
}

// saidHand are the errors of all functions with a copy in the hand but CheckHand, and what they return besides.
func saidHand(h api.MaHand) (errors map[string]api.Errno, results []any) {
	f, s, o, p, l := foreign(h), surely(h), sources(h), proof(h, list(-1, -1)), tall(h, list(-1, -1))
	errors = map[string]api.Errno{"Foreign": f.e, "Sure": s.e, "Sources": o.e, "Proof": p.e, "Tall": l.e}
	return errors, []any{f.copies, s.must, s.may, o.sources, o.many, p.a, p.b, l.span}
}

// P11.5: the errors of a copy in the hand in their order; all functions with it return them first, and nothing else.
func TestCheckHand(t *testing.T) {
	for i, x := range allHands() {
		at, e := made.CheckHand(x.h)
		if at != x.at || e != x.e {
			t.Errorf("%d: CheckHand(%v) = %d, %d, not %d, %d", i, x.h, at, e, x.at, x.e)
		}
		if x.e == api.OK {
			continue
		}
		errors, results := saidHand(x.h)
		for name, e := range errors {
			if e != x.e {
				t.Errorf("%d: %s: %d", i, name, e)
			}
		}
		if !zero(results...) {
			t.Errorf("%d: %v", i, results)
		}
	}
}

// P11.8: leaves that are told: those that are none come before those that are not ascending, and both before all else.
func TestToldErrors(t *testing.T) {
	h := inHand()
	for i, x := range []struct {
		h    api.MaHand
		told []int
		e    api.Errno
	}{
		{h, list(1, 0), api.ErrArg}, {h, list(1, 1), api.ErrArg}, {h, list(0, 1, 2, 3, 4, 4), api.ErrArg}, {h, list(0, 2, 1), api.ErrArg}, {h, slices.Repeat(list(1), 1000), api.ErrArg}, {h, list(1, 0, 5), api.ErrNone}, {h, list(5), api.ErrNone}, {h, list(-1), api.ErrNone}, {h, list(0, 0, -1), api.ErrNone}, {h, list(4, 3, 2, 1, 0, 5), api.ErrNone}, {handOf(seen(0, 1, 1)), list(1), api.ErrNone}, {handOf(seen(0, 1, 1)), list(0, 0), api.ErrArg},
	} {
		if p := proof(x.h, x.told); p.e != x.e || !zero(p.a, p.b) {
			t.Errorf("%d: Proof = %v, not %d", i, p, x.e)
		}
		if l := tall(x.h, x.told); l.e != x.e || !zero(l.span) {
			t.Errorf("%d: Tall = %v, not %d", i, l, x.e)
		}
	}
	for _, n := range numbers(0, 4, 5) {
		in := n >= 0 && n < 5
		p, l := proof(h, list(n)), tall(h, list(n))
		if p.e != errorIf(in, api.OK, api.ErrNone) || l.e != errorIf(in, api.ErrZero, api.ErrNone) {
			t.Errorf("of %d: Proof = %v, Tall = %v", n, p, l)
		}
	}
}

// P11.17: all functions return for any numbers and texts.
func TestAnyArguments(t *testing.T) {
	ints := numbers(0, 5, 6, 600, 1000, api.MaxMaPrice)
	for _, n := range ints {
		for _, m := range ints {
			for i, s := range []api.MaSet{
				example(), but(func(s *api.MaSet) { s.Price = n }), leaves(leaf("a", n, m)), leaves(leaf("\xff", n, m), leaf("b", m, n)), leaves(leaf("a", 1, n), leaf("b", 0, m)), copies(copied("a", n, m, n, m, n)), copies(copied("a", n), copied("b", m)),
				but(func(s *api.MaSet) { s.Leaves[0].Mate, s.Leaves[1].Mate = n, m }), but(func(s *api.MaSet) { s.Price, s.Leaves[0].Share = n, m }), but(func(s *api.MaSet) { s.Copies[0].Has[0], s.Copies[1].Has[4] = n, m }),
			} {
				_, _, e := made.Check(s)
				errors, results := said(s)
				if wrong := errors["Donors"]; wrong != errorIf(e != api.OK, e, api.ErrNone) || e != api.OK && !zero(results...) {
					t.Errorf("%d, %d, %d: Donors: %d, %v", i, n, m, wrong, results)
				}
				missing(s, n)
				donors(s, n, m)
				most(s, n)
				worth(s, n)
			}
			for i, h := range []api.MaHand{inHand(), handOf(seen(0, n, m)), handOf(seen(n, 1, m), seen(m, n, 1)), handOf(seen(1, n, n), seen(m, 5, 5))} {
				_, e := made.CheckHand(h)
				errors, results := saidHand(h)
				if wrong := errors["Proof"]; wrong != errorIf(e != api.OK, e, api.ErrNone) || e != api.OK && !zero(results...) {
					t.Errorf("%d, %d, %d: Proof: %d, %v", i, n, m, wrong, results)
				}
				proof(h, list(n, m))
				tall(h, list(n, m))
			}
		}
	}
}

// P11.17: no argument is changed, nor the memory behind it.
func TestNotChanged(t *testing.T) {
	t.Parallel()
	behindLeaf, behindCopy, behindSeen := leaf("behind", 7, 7), copied("behind", 7), seen(7, 7, 7)
	for i, was := range sets()[:500] {
		s := cloned(was)
		s.Leaves = append(s.Leaves, behindLeaf)[:len(s.Leaves)]
		s.Copies = append(s.Copies, behindCopy)[:len(s.Copies)]
		for k, c := range s.Copies {
			s.Copies[k].Has = append(c.Has, 7)[:len(c.Has)]
		}
		if x := tell(s); differ(x, answers()[i]) != "" {
			t.Errorf("%v: %s: %v, was %v", s, differ(x, answers()[i]), x, answers()[i])
		}
		made.Check(s)
		said(s)
		if !alike(s, was) || s.Leaves[:len(was.Leaves)+1][len(was.Leaves)] != behindLeaf || !alike(s.Copies[:len(was.Copies)+1][len(was.Copies)], behindCopy) {
			t.Errorf("%v became %v", was, s)
		}
		for k, c := range s.Copies {
			if c.Has[:len(c.Has)+1][len(c.Has)] != 7 {
				t.Errorf("%v: what is behind the leaves of the copy %d was changed", was, k)
			}
		}
	}
	for _, was := range hands()[:500] {
		h := clonedHand(was)
		h.Leaves = append(h.Leaves, behindSeen)[:len(h.Leaves)]
		made.CheckHand(h)
		saidHand(h)
		for _, some := range allParts()[len(h.Leaves)] {
			told := append(slices.Clone(some), 7)[:len(some)]
			proof(h, told)
			tall(h, told)
			if !slices.Equal(told[:len(some)+1], append(slices.Clone(some), 7)) {
				t.Errorf("%v: told %v became %v", was, some, told)
			}
		}
		if !alike(h, was) || h.Leaves[:len(was.Leaves)+1][len(was.Leaves)] != behindSeen {
			t.Errorf("%v became %v", was, h)
		}
	}
}

// P11.17: results are new memory: what is written there is seen neither in the arguments, nor in other results.
func TestNewMemory(t *testing.T) {
	t.Parallel()
	for i, s := range sets()[:300] {
		was, want := cloned(s), fmt.Sprint(tell(s))
		x := tell(s)
		results := x.whole.plan
		for k, m := range x.missing {
			results = append(results, m.missing)
			for _, d := range x.donors[k] {
				results = append(results, d.copies)
			}
		}
		scribbleAll(t, results)
		if !alike(s, was) || fmt.Sprint(tell(s)) != want {
			t.Errorf("%d: %v became %v", i, was, s)
		}
	}
	for i, h := range hands()[:300] {
		was, want := clonedHand(h), fmt.Sprint(tellHand(h))
		x := tellHand(h)
		scribbleAll(t, rows(x.foreign.copies, x.sure.must, x.sure.may, x.sources.sources))
		if !alike(h, was) || fmt.Sprint(tellHand(h)) != want {
			t.Errorf("%d: %v became %v", i, was, h)
		}
	}
}

// scribbleAll overwrites lists, also beyond their ends; none of them must be seen in those behind it.
func scribbleAll(t *testing.T, lists [][]int) {
	t.Helper()
	for k, numbers := range lists {
		before := fmt.Sprint(lists[k+1:])
		numbers = numbers[:cap(numbers)]
		for i := range numbers {
			numbers[i] = -7
		}
		if fmt.Sprint(lists[k+1:]) != before {
			t.Errorf("results share memory: %v", lists)
		}
	}
}
