package made_test

import (
	"math/rand"
	"slices"
	"testing"

	"duodecimo/api"
)

// somePlan is any plan of a set.
func somePlan(r *rand.Rand, s api.MaSet) [][]int {
	plan := emptyPlan(s)
	for k := range s.Leaves {
		for i, from := range r.Perm(len(s.Copies)) {
			if s.Copies[from].Has[k] != 0 && r.Intn(8) > 0 {
				plan[i][k] = from
			}
		}
	}
	return plan
}

// likePlan is a plan that differs from another one by some leaves of which two copies are exchanged, or that are not given.
func likePlan(r *rand.Rand, plan [][]int) [][]int {
	plan = cloneRows(plan)
	for range 1 + r.Intn(3) {
		k, a, b := r.Intn(len(plan[0])), r.Intn(len(plan)), r.Intn(len(plan))
		plan[a][k], plan[b][k] = plan[b][k], plan[a][k]
		if a == b {
			plan[a][k] = none
		}
	}
	return plan
}

// isPlan reports whether each leaf comes from a copy that has it, and from none twice.
func isPlan(s api.MaSet, plan [][]int) bool {
	if len(plan) != len(s.Copies) {
		return false
	}
	for i := range plan {
		if len(plan[i]) != len(s.Leaves) {
			return false
		}
		for k, from := range plan[i] {
			if from == none {
				continue
			}
			if from < 0 || from >= len(plan) || s.Copies[from].Has[k] == 0 || slices.ContainsFunc(plan[:i], func(row []int) bool { return row[k] == from }) {
				return false
			}
		}
	}
	return true
}

// P11.3, P11.9: the plan is one, and does what is said; copies that it does not make whole keep what they do not give, and get nothing; as many are whole as Most of both kinds, together.
func TestPlanned(t *testing.T) {
	t.Parallel()
	asks(func(s api.MaSet, x told) {
		if !isPlan(s, x.whole.plan) || !isAllowed(s, x.whole.plan) {
			t.Errorf("%v: Whole = %v", s, x.whole)
			return
		}
		if p := plannedOf(s, x.whole.plan); !alike(p, x.whole) || p.whole != x.most[0].many+x.most[1].many {
			t.Errorf("%v: Whole = %v, not %v; Most = %v", s, x.whole, p, x.most)
		}
	})
}

// P11.9: no plan makes more copies whole, or as many with fewer leaves moved; nor, of those that are allowed, with as many and fewer pairs cut, or as well and comes first.
func TestNoMore(t *testing.T) {
	t.Parallel()
	r := seed(119)
	as, fewer := 0, 0
	asks(func(s api.MaSet, x told) {
		for n := range 200 {
			plan := somePlan(r, s)
			if n%2 == 0 {
				plan = likePlan(r, x.whole.plan)
			}
			if !isPlan(s, plan) {
				t.Fatalf("%v: %v is no plan", s, plan)
			}
			p := plannedOf(s, plan)
			if p.whole > x.whole.whole || p.whole == x.whole.whole && p.moved < x.whole.moved || isAllowed(s, plan) && better(p, x.whole) {
				t.Errorf("%v: Whole = %v, not %v", s, x.whole, p)
			}
			switch {
			case p.whole == x.whole.whole && p.whole > 0 && !alike(p.plan, x.whole.plan):
				as++
			case p.whole < x.whole.whole && p.whole > 0:
				fewer++
			}
		}
	})
	if as < 20000 || fewer < 20000 {
		t.Errorf("just %d plans make as many whole, %d fewer", as, fewer)
	}
}

// mixture is a copy in the hand, and from which copy each of its leaves comes.
type mixture struct {
	api.MaHand
	from   []int
	copies []like
}

// someMixture is a copy that was made up of some copies of one kind and height each, as its leaves are seen.
func someMixture(r *rand.Rand) mixture {
	var m mixture
	about := 1 + r.Intn(api.MaxMaTall)
	for range 1 + r.Intn(5) {
		m.copies = append(m.copies, like{1 + r.Intn(api.MaxMaKinds), min(api.MaxMaTall, max(1, about+r.Intn(9)-4))})
	}
	wide := r.Intn(4)
	for range 1 + r.Intn(api.MaxMaSeen) {
		from := r.Intn(len(m.copies))
		c := m.copies[from]
		x := seen(oneOf(r, 0, c.kind, c.kind), max(1, c.tall-r.Intn(wide+1)), min(api.MaxMaTall, c.tall+r.Intn(wide+1)))
		m.from, m.Leaves = append(m.from, from), append(m.Leaves, x)
	}
	return m
}

// P11.10: the leaves of all copies but one account for a copy made up of them: Foreign names no more, Sources no more copies; if these are told, Proof has nothing, and the other copy is as tall as Tall says.
func TestMadeUp(t *testing.T) {
	t.Parallel()
	r := seed(1110)
	kept, fewer, fewerCopies, several := 0, 0, 0, 0
	for range 4000 {
		m := someMixture(r)
		f, s := foreign(m.MaHand), sources(m.MaHand)
		used := slices.Compact(slices.Sorted(slices.Values(m.from)))
		if s.many > len(used) {
			t.Errorf("%v: Sources = %v", m, s)
		}
		for _, one := range used {
			var told []int
			for k, from := range m.from {
				if from != one {
					told = append(told, k)
				}
			}
			p, l := proof(m.MaHand, told), tall(m.MaHand, told)
			if len(f.copies) > len(told) || p.e != api.ErrZero || l.e != api.OK || m.copies[one].tall < l.span.Lo || m.copies[one].tall > l.span.Hi {
				t.Errorf("%v: Foreign = %v; of %v: Proof = %v, Tall = %v", m, f, told, p, l)
			}
			if len(f.copies) < len(told) {
				fewer++
			} else if len(told) > 0 {
				kept++
			}
		}
		if s.many < len(used) {
			fewerCopies++
		}
		if len(used) > 2 {
			several++
		}
	}
	if kept < 1000 || fewer < 1000 || fewerCopies < 100 || several < 1000 {
		t.Errorf("just %d times as few leaves, %d times fewer leaves, %d times fewer copies, %d made up of several", kept, fewer, fewerCopies, several)
	}
}

// accounts reports whether leaves that are told account for a copy, by Proof.
func accounts(h api.MaHand, x toldHand, told []int) bool {
	i := slices.IndexFunc(allParts()[len(h.Leaves)], func(some []int) bool { return slices.Equal(some, told) })
	return x.proof[i].e == api.ErrZero
}

// P11.6, P11.11: the leaves of Foreign account for the copy; no fewer do, and none as many that come before; all that must be are in it, and it is among those that can be; each that can be is in some list as short.
func TestFewest(t *testing.T) {
	t.Parallel()
	fewer, later := 0, 0
	asksHand(func(h api.MaHand, x toldHand) {
		f := x.foreign.copies
		if !accounts(h, x, f) || len(without(x.sure.must, f)) > 0 || len(without(f, x.sure.may)) > 0 {
			t.Errorf("%v: Foreign = %v; Sure = %v", h, f, x.sure)
		}
		in := map[int]int{}
		lists := 0
		for i, some := range allParts()[len(h.Leaves)] {
			does := x.proof[i].e == api.ErrZero
			before := len(some) < len(f) || len(some) == len(f) && slices.Compare(some, f) < 0
			switch {
			case before && does:
				t.Errorf("%v: Foreign = %v, not %v", h, f, some)
			case before:
				fewer++
			case does && len(some) == len(f):
				lists++
				for _, k := range some {
					in[k]++
				}
				if !slices.Equal(some, f) {
					later++
				}
			}
		}
		for k := range h.Leaves {
			if slices.Contains(x.sure.must, k) != (in[k] == lists) || slices.Contains(x.sure.may, k) != (in[k] > 0) {
				t.Errorf("%v: Sure = %v; %d is in %d of %d", h, x.sure, k, in[k], lists)
			}
		}
	})
	if fewer < 20000 || later < 1000 {
		t.Errorf("just %d lists come before, %d later", fewer, later)
	}
}

// contradict reports whether two leaves cannot be of one copy.
func contradict(x, y api.MaSeen) bool {
	return x.Kind != 0 && y.Kind != 0 && x.Kind != y.Kind || x.Tall.Hi < y.Tall.Lo || y.Tall.Hi < x.Tall.Lo
}

// P11.12: the two leaves of Proof contradict each other; if there is a proof some two of the others do, and none that come before; if there is none no two do.
func TestProved(t *testing.T) {
	t.Parallel()
	with, out := 0, 0
	asksHand(func(h api.MaHand, x toldHand) {
		for i, told := range allParts()[len(h.Leaves)] {
			others := without(upTo(len(h.Leaves)), told)
			want := proved{e: api.ErrZero}
			for _, a := range others {
				for _, b := range others {
					if a < b && want.e != api.OK && contradict(h.Leaves[a], h.Leaves[b]) {
						want = proved{a, b, api.OK}
					}
				}
			}
			if x.proof[i] != want {
				t.Errorf("%v: Proof of %v = %v, not %v", h, told, x.proof[i], want)
			}
			if want.e == api.OK {
				with++
			} else {
				out++
			}
		}
	})
	if with < 20000 || out < 20000 {
		t.Errorf("just %d with a proof, %d without", with, out)
	}
}

// P11.13: a whole copy is worth Price; a copy with one leaf more is worth no less, if its kind is the same.
func TestWorthMore(t *testing.T) {
	t.Parallel()
	wholes, more, same := 0, 0, 0
	asks(func(s api.MaSet, x told) {
		for i, c := range s.Copies {
			if isWhole(c) {
				wholes++
				if x.worth[i].worth != s.Price {
					t.Errorf("%v: Worth of %d = %v", s, i, x.worth[i])
				}
			}
			for _, k := range x.missing[i].missing {
				for kind := range api.MaxMaKinds {
					with := cloned(s)
					with.Copies[i].Has[k] = kind + 1
					if missing(with, i).kind != x.missing[i].kind {
						continue
					}
					switch w := worth(with, i); {
					case w.worth < x.worth[i].worth:
						t.Errorf("%v: Worth of %d = %v, with %d of the kind %d %v", s, i, x.worth[i], k, kind+1, w)
					case w.worth > x.worth[i].worth:
						more++
					default:
						same++
					}
				}
			}
		}
	})
	if wholes < 500 || more < 2000 || same < 500 {
		t.Errorf("just %d whole copies, %d worth more with a leaf, %d the same", wholes, more, same)
	}
}

// P11.14: with one more leaf no fewer leaves account for the copy, and no fewer copies; with a wider Tall, or an unknown Kind, no more do.
func TestOneMore(t *testing.T) {
	t.Parallel()
	r := seed(1114)
	more, fewer, moreCopies, fewerCopies := 0, 0, 0, 0
	asksHand(func(h api.MaHand, x toldHand) {
		if len(h.Leaves) < api.MaxMaSeen {
			with := clonedHand(h)
			with.Leaves = slices.Insert(with.Leaves, r.Intn(len(h.Leaves)+1), someHand(r, 1).Leaves[0])
			f, s := foreign(with), sources(with)
			if len(f.copies) < len(x.foreign.copies) || s.many < x.sources.many {
				t.Errorf("%v: Foreign = %v, Sources = %v; with a leaf more %v: %v, %v", h, x.foreign, x.sources, with, f, s)
			}
			more += len(f.copies) - len(x.foreign.copies)
			moreCopies += s.many - x.sources.many
		}
		for k := range h.Leaves {
			wider := clonedHand(h)
			tall := &wider.Leaves[k].Tall
			switch r.Intn(3) {
			case 0:
				wider.Leaves[k].Kind = 0
			case 1:
				tall.Lo = max(1, tall.Lo-r.Intn(6))
			default:
				tall.Hi = min(api.MaxMaTall, tall.Hi+r.Intn(6))
			}
			f, s := foreign(wider), sources(wider)
			if len(f.copies) > len(x.foreign.copies) || s.many > x.sources.many {
				t.Errorf("%v: Foreign = %v, Sources = %v; less narrow %v: %v, %v", h, x.foreign, x.sources, wider, f, s)
			}
			fewer += len(x.foreign.copies) - len(f.copies)
			fewerCopies += x.sources.many - s.many
		}
	})
	if more < 300 || fewer < 300 || moreCopies < 300 || fewerCopies < 300 {
		t.Errorf("just %d leaves and %d copies more, %d leaves and %d copies fewer", more, moreCopies, fewer, fewerCopies)
	}
}

// does is what a plan does, without the plan itself.
func does(p planned) planned {
	p.plan = nil
	return p
}

// P11.15: if both kinds are exchanged everywhere, or the copies come in another order, as many copies are made whole, with as many leaves moved and pairs cut.
func TestExchanged(t *testing.T) {
	t.Parallel()
	r := seed(1115)
	moved, cut := 0, 0
	asks(func(s api.MaSet, x told) {
		exchanged := cloned(s)
		for _, c := range exchanged.Copies {
			for k, kind := range c.Has {
				c.Has[k] = list(0, 2, 1)[kind]
			}
		}
		if y := whole(exchanged); !alike(does(y), does(x.whole)) {
			t.Errorf("%v: Whole = %v; exchanged %v", s, x.whole, y)
		}
		other := cloned(s)
		for i, of := range r.Perm(len(s.Copies)) {
			other.Copies[i] = s.Copies[of]
		}
		if y := whole(other); !alike(does(y), does(x.whole)) {
			t.Errorf("%v: Whole = %v; in another order %v", s, x.whole, y)
		}
		if x.whole.moved > 0 {
			moved++
		}
		if x.whole.cut > 0 {
			cut++
		}
	})
	if moved < 500 || cut < 100 {
		t.Errorf("just %d with leaves moved, %d with pairs cut", moved, cut)
	}
}

// P11.16: a set after its best plan has as many whole copies as the plan says, and no leaf has to be moved.
func TestAgain(t *testing.T) {
	t.Parallel()
	moved := 0
	asks(func(s api.MaSet, x told) {
		then := after(s, x.whole.plan)
		if y := whole(then); y.e != api.OK || y.whole != x.whole.whole || y.moved != 0 || y.cut != 0 || !alike(after(then, y.plan), then) {
			t.Errorf("%v: Whole = %v; after it %v", s, x.whole, y)
		}
		if x.whole.moved > 0 {
			moved++
		}
	})
	if moved < 500 {
		t.Errorf("just %d with leaves moved", moved)
	}
}
