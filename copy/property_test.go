package copy_test

import (
	"math/rand"
	"slices"
	"testing"

	"duodecimo/api"
	"duodecimo/copy"
)

// P4.7: of a copy whose leaves are known in truth, the faults are within Range; what is surely lost or loose is so in truth, and what is so in truth may be so.
func TestTrueFaults(t *testing.T) {
	for _, c := range cases() {
		m := modelOf(leavesOf(c.Book), matesOf(c.Book), c.told)
		if s := rangeOf(t, c.CpCase); m.All < s.Lo || m.All > s.Hi {
			t.Errorf("Range(%v) = %v, but there are %d faults", c.CpCase, s, m.All)
		}
		sure, may := toldOf(t, c.CpCase, copy.Lost)
		if !within(sure, m.Lost) || !within(m.Lost, may) {
			t.Errorf("Lost(%v) = %v, %v, but %v are", c.CpCase, sure, may, m.Lost)
		}
		sure, may = toldOf(t, c.CpCase, copy.Loose)
		if !within(sure, m.loose) || !within(m.loose, may) {
			t.Errorf("Loose(%v) = %v, %v, but %v are", c.CpCase, sure, may, m.loose)
		}
	}
}

// P4.8: the faults are those of a truth, with runs that can be kept; no truth with any runs that can be kept has fewer.
func TestNoFewer(t *testing.T) {
	for _, c := range smallCases() {
		f := faultsOf(t, c.CpCase)
		leaves, mates := leavesOf(c.Book), matesOf(c.Book)
		isTruth := false
		for _, told := range truthsOf(c.CpCase) {
			m := modelOf(leaves, mates, told)
			runs := runsOf(leaves, told)
			same := slices.Equal(told, f.Leaves)
			isTruth = isTruth || same
			reached := false
			for bits := range 1 << len(runs) {
				keeps := someOf(runs, bits)
				if !canBeKept(told, keeps) {
					continue
				}
				all := m.Pieces + len(m.Strange) + len(m.Twice) + len(runs) - len(keeps)
				if all < f.All {
					t.Errorf("Faults(%v) = %v, but %v has %d with %v kept", c.CpCase, f, told, all, keeps)
				}
				moved := begins(someOf(runs, 1<<len(runs)-1-bits))
				if same && all == f.All && slices.Equal(moved, f.Moved) {
					reached = true
				}
			}
			if same && !reached {
				t.Errorf("Faults(%v) = %v: what was not moved cannot be kept", c.CpCase, f)
			}
			if same && (!slices.Equal(f.Lost, m.Lost) || f.Pieces != m.Pieces || !slices.Equal(f.Strange, m.Strange) || !slices.Equal(f.Twice, m.Twice)) {
				t.Errorf("Faults(%v) = %v", c.CpCase, f)
			}
		}
		if !isTruth || f.All != f.Pieces+len(f.Strange)+len(f.Twice)+len(f.Moved) {
			t.Errorf("Faults(%v) = %v", c.CpCase, f)
		}
	}
}

// oneFault checks that a copy of these leaves has one fault.
func oneFault(t *testing.T, formula string, leaves []int) {
	t.Helper()
	if len(leaves) > api.MaxCpItems {
		return
	}
	c := bindingOf(formula, leaves...)
	f := faultsOf(t, c)
	if s := rangeOf(t, c); f.All != 1 || s != (api.Span{Lo: 1, Hi: 1}) {
		t.Errorf("Faults(%s, %v) = %v; Range = %v", formula, leaves, f, s)
	}
}

// P4.9: a copy of all leaves in their order has no fault; without one leaf, or two mates, it has one.
func TestWholeAndLost(t *testing.T) {
	for _, formula := range formulas() {
		c := wholeOf(formula)
		f := faultsOf(t, c)
		none := len(f.Lost) + f.Pieces + len(f.Strange) + len(f.Twice) + len(f.Moved) + f.All
		if s := rangeOf(t, c); none != 0 || s != (api.Span{}) || !slices.Equal(f.Leaves, upTo(len(c.Items))) {
			t.Errorf("Faults(%s) = %v; Range = %v", formula, f, s)
		}
		all := upTo(len(c.Items))
		for n, mate := range matesOf(c.Book) {
			oneFault(t, formula, slices.Delete(slices.Clone(all), n, n+1))
			if mate != no {
				oneFault(t, formula, slices.DeleteFunc(slices.Clone(all), func(m int) bool { return m == n || m == mate }))
			}
		}
	}
}

// P4.9: with a strange leaf somewhere, or any leaf once more somewhere behind itself, a copy has one fault.
func TestWholeAndMore(t *testing.T) {
	for _, formula := range []string{single, nothing, small, three, changed, put, gaps} {
		all := upTo(len(wholeOf(formula).Items))
		for at := range len(all) + 1 {
			oneFault(t, formula, slices.Insert(slices.Clone(all), at, no))
			for n := range at {
				oneFault(t, formula, slices.Insert(slices.Clone(all), at, n))
			}
		}
	}
}

// P4.9: with one gathering moved anywhere, also into another one, a copy has one fault.
func TestWholeAndMoved(t *testing.T) {
	for _, formula := range []string{small, three, changed, put, most, many, gaps} {
		leaves := leavesOf(bookOf(formula))
		for g := range bookOf(formula).Gatherings {
			var part, others []int
			for n, l := range leaves {
				if l.Gathering == g {
					part = append(part, n)
				} else {
					others = append(others, n)
				}
			}
			step := 1 + len(others)/30
			for at := g % step; at <= len(others); at += step {
				moved := slices.Insert(slices.Clone(others), at, part...)
				if !slices.IsSorted(moved) {
					oneFault(t, formula, moved)
				}
			}
		}
	}
}

// P4.10: with one more strange item, anywhere, or one more item at the end that surely is there already, there is one more fault.
func TestOneMore(t *testing.T) {
	r := rand.New(rand.NewSource(410))
	again := 0
	for _, c := range cases() {
		if len(c.Items) == api.MaxCpItems {
			continue
		}
		f, s := faultsOf(t, c.CpCase), rangeOf(t, c.CpCase)
		oneMore := func(d api.CpCase) {
			t.Helper()
			if g, u := faultsOf(t, d), rangeOf(t, d); g.All != f.All+1 || u.Lo != s.Lo+1 || u.Hi != s.Hi+1 {
				t.Errorf("%v has %v, %v; %v has %v, %v", c.CpCase, f, s, d, g, u)
			}
		}
		d := cloned(c.CpCase)
		d.Items = slices.Insert(d.Items, r.Intn(len(d.Items)+1), item())
		oneMore(d)
		_, may := toldOf(t, c.CpCase, copy.Lost)
		sure := slices.DeleteFunc(upTo(len(leavesOf(c.Book))), func(n int) bool { return slices.Contains(may, n) })
		if len(sure) > 0 {
			again++
			d = cloned(c.CpCase)
			d.Items = append(d.Items, item(sure[r.Intn(len(sure))]))
			oneMore(d)
		}
	}
	if again < 200 {
		t.Errorf("in just %d cases a leaf surely is there", again)
	}
}

// P4.11: leaves that are bound in the order of Bound, and nothing else, have just the lost pieces as faults.
func TestBoundAgain(t *testing.T) {
	for _, c := range cases() {
		f := faultsOf(t, c.CpCase)
		d := api.CpCase{Book: c.Book}
		for _, i := range boundOf(t, c.CpCase) {
			d.Items = append(d.Items, item(f.Leaves[i]))
		}
		g := faultsOf(t, d)
		if g.All != f.Pieces || g.Pieces != f.Pieces || !slices.Equal(g.Lost, f.Lost) {
			t.Errorf("%v has %v; bound anew %v", c.CpCase, f, g)
		}
		if len(d.Items)+len(f.Strange)+len(f.Twice) != len(c.Items) {
			t.Errorf("Bound(%v) has %d items", c.CpCase, len(d.Items))
		}
	}
}

// P4.12: if an item can be one leaf more, Range is not narrower, no leaf more is surely lost, and none fewer is perhaps lost.
func TestMoreDoubt(t *testing.T) {
	r := rand.New(rand.NewSource(412))
	tried := 0
	for _, c := range cases() {
		for i, x := range c.Items {
			n := r.Intn(len(leavesOf(c.Book)) + 1)
			d := cloned(c.CpCase)
			d.Items[i].Could = append(d.Items[i].Could, n)
			slices.Sort(d.Items[i].Could)
			// A strange item that is some leaf instead is another copy.
			if _, _, e := copy.Check(d); e != api.OK || len(x.Could) == 0 || tried > 1000 && len(x.Could) == 1 {
				continue
			}
			tried++
			s, u := rangeOf(t, c.CpCase), rangeOf(t, d)
			sure, may := toldOf(t, c.CpCase, copy.Lost)
			fewer, more := toldOf(t, d, copy.Lost)
			if u.Lo > s.Lo || u.Hi < s.Hi || !within(fewer, sure) || !within(may, more) {
				t.Errorf("%v: %v, %v, %v; %v: %v, %v, %v", c.CpCase, s, sure, may, d, u, fewer, more)
			}
		}
	}
	if tried < 1200 {
		t.Errorf("just %d items were tried", tried)
	}
}

// P4.13: with the item that Ask returns known, Range is at most as wide as at worst; any other doubtful item leaves one at least as wide at worst.
func TestAsked(t *testing.T) {
	wider := 0
	for _, c := range cases() {
		asked, e := copy.Ask(c.CpCase)
		if e != api.OK {
			continue
		}
		worst := map[int]int{}
		for _, i := range doubtsOf(c.CpCase) {
			for _, leaf := range c.Items[i].Could {
				s := rangeOf(t, known(c.CpCase, i, leaf))
				worst[i] = max(worst[i], s.Hi-s.Lo)
			}
		}
		for _, i := range doubtsOf(c.CpCase) {
			if worst[i] < worst[asked] {
				t.Errorf("Ask(%v) = %d, which leaves %d, but %d leaves %d", c.CpCase, asked, worst[asked], i, worst[i])
			}
			if worst[i] > worst[asked] {
				wider++
			}
		}
		s := rangeOf(t, known(c.CpCase, asked, c.told[asked]))
		if s.Hi-s.Lo > worst[asked] {
			t.Errorf("Ask(%v) = %d, with which known Range is %v", c.CpCase, asked, s)
		}
	}
	if wider < 100 {
		t.Errorf("just %d items are worse than the one that is asked", wider)
	}
}

// P4.14: if two copies are exchanged Divided returns the mates; of a whole copy that was divided it tells each leaf whose mate is in the other part.
func TestDividedAnywhere(t *testing.T) {
	r := rand.New(rand.NewSource(414))
	for _, formula := range formulas() {
		b := bookOf(formula)
		mates := matesOf(b)
		check := func(inOne func(n int) bool) {
			t.Helper()
			var one, other, want, back []int
			for n, mate := range mates {
				cut := mate != no && inOne(n) != inOne(mate)
				if inOne(n) {
					one = append(one, n)
				} else {
					other = append(other, n)
				}
				if cut && inOne(n) {
					want = append(want, n)
				} else if cut {
					back = append(back, n)
				}
			}
			list, e := copy.Divided(b, items(one...), items(other...))
			if !slices.Equal(list, want) || e != api.OK {
				t.Errorf("Divided(%s, %v, %v) = %v, %d, not %v", formula, one, other, list, e, want)
			}
			list, e = copy.Divided(b, items(other...), items(one...))
			if !slices.Equal(list, back) || e != api.OK {
				t.Errorf("Divided(%s, %v, %v) = %v, %d, not %v", formula, other, one, list, e, back)
			}
		}
		for at := range len(mates) + 1 {
			check(func(n int) bool { return n < at })
		}
		for range 20 {
			parts := r.Perm(len(mates))
			check(func(n int) bool { return parts[n]%2 == 0 })
		}
	}
}

// roomy is a case with room behind the end of each list, and all items that are in this room.
func roomy(c api.CpCase) (api.CpCase, []api.CpItem) {
	room := append(clonedItems(c.Items), item(1), item(2))
	for i, x := range room {
		room[i].Could = append(slices.Clone(x.Could), no)[:len(x.Could)]
	}
	c = cloned(c)
	c.Items = room[:len(c.Items)]
	return c, room
}

// resultsOf are all lists that the functions with a case return, and the item that Ask does.
func resultsOf(t *testing.T, c api.CpCase) [][]int {
	t.Helper()
	f := faultsOf(t, c)
	sure, may := toldOf(t, c, copy.Lost)
	tight, slack := toldOf(t, c, copy.Loose)
	asked, _ := copy.Ask(c)
	return [][]int{f.Leaves, f.Lost, f.Strange, f.Twice, f.Moved, sure, may, tight, slack, boundOf(t, c), {asked}}
}

// P4.15: no argument is changed, not even behind its end, and a result that is overwritten changes nothing.
func TestMemory(t *testing.T) {
	for _, x := range cases() {
		c, room := roomy(x.CpCase)
		kept := clonedItems(room)
		results := resultsOf(t, c)
		copy.Check(c)
		copy.Divided(c.Book, c.Items, c.Items)
		before := make([][]int, len(results))
		for i, list := range results {
			before[i] = slices.Clone(list)
		}
		notShared(t, results)
		if again := resultsOf(t, c); !slices.EqualFunc(before, again, slices.Equal) {
			t.Errorf("%v: first %v, then %v", x.CpCase, before, again)
		}
		if !sameCase(c, x.CpCase) || !sameItems(room, kept) {
			t.Errorf("%v became %v", x.CpCase, room)
		}
		for i, y := range room {
			if y.Could[:len(y.Could)+1][len(y.Could)] != no {
				t.Errorf("%v: written behind the item %d", x.CpCase, i)
			}
		}
	}
}

// notShared overwrites one list after the other, and checks that no other one is changed.
func notShared(t *testing.T, lists [][]int) {
	t.Helper()
	for i, list := range lists {
		var before [][]int
		for _, other := range lists {
			before = append(before, slices.Clone(other))
		}
		for j := range list[:cap(list)] {
			list[:cap(list)][j] = 1000
		}
		for j, other := range lists {
			if j != i && !slices.Equal(other, before[j]) {
				t.Fatalf("results %d and %d share memory", i, j)
			}
		}
	}
}

// P4.15: what Divided returns, and the items that it is given, are not shared.
func TestDividedMemory(t *testing.T) {
	b := bookOf(small)
	one, other := items(0, 1), items(2, 3, 4)
	keptOne, keptOther := clonedItems(one), clonedItems(other)
	for range 2 {
		list, e := copy.Divided(b, one, other)
		if !slices.Equal(list, []int{0, 1}) || e != api.OK || !sameItems(one, keptOne) || !sameItems(other, keptOther) {
			t.Fatalf("Divided = %v, %d; %v, %v", list, e, one, other)
		}
		for i := range list[:cap(list)] {
			list[:cap(list)][i] = 1000
		}
	}
}
