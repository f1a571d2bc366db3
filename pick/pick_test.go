package pick_test

import (
	"math/rand"
	"slices"
	"testing"

	"duodecimo/pick"
)

// A set has its numbers, and its list is ascending, up to the greatest number that a set can have.
func TestSet(t *testing.T) {
	for i, list := range [][]int{nil, {0}, {5}, {63}, {0, 1, 2}, {3, 62, 63}, {0, 31, 32, 40}} {
		s := pick.Of(list...)
		if !slices.Equal(s.List(), list) {
			t.Errorf("%d: List = %v", i, s.List())
		}
		for n := range 64 {
			if s.Has(n) != slices.Contains(list, n) {
				t.Errorf("%d: Has of %d = %t", i, n, s.Has(n))
			}
		}
		if len(list) > 0 && (s.Least() != list[0] || s.Greatest() != list[len(list)-1]) {
			t.Errorf("%d: from %d to %d", i, s.Least(), s.Greatest())
		}
	}
}

// Of is the set of some numbers, in any order, also if one is there twice.
func TestOf(t *testing.T) {
	for i, c := range []struct {
		numbers []int
		want    pick.Set
	}{{nil, 0}, {[]int{0}, 1}, {[]int{63}, 1 << 63}, {[]int{0, 1, 5}, 35}, {[]int{5, 0, 1}, 35}, {[]int{3, 3, 3}, 8}, {[]int{2, 62, 2, 0}, 1<<62 | 5}} {
		if got := pick.Of(c.numbers...); got != c.want {
			t.Errorf("%d: Of = %v", i, got.List())
		}
	}
}

// All is the set of the first numbers, of none and of as many as can be.
func TestAll(t *testing.T) {
	var list []int
	for n := range 65 {
		if got := pick.All(n).List(); !slices.Equal(got, list) {
			t.Errorf("All(%d) = %v", n, got)
		}
		list = append(list, n)
	}
}

// A set is ahead of another one if its list is shorter, or as long and comes first.
func TestAhead(t *testing.T) {
	check := func(s, other pick.Set) {
		a, b := s.List(), other.List()
		want := len(a) < len(b) || len(a) == len(b) && slices.Compare(a, b) < 0
		if got := s.Ahead(other); got != want {
			t.Errorf("%v is ahead of %v: %t", a, b, got)
		}
	}
	for s := range pick.All(7) + 1 {
		for other := range pick.All(7) + 1 {
			check(s, other)
		}
	}
	r := rand.New(rand.NewSource(1))
	for range 2000 {
		check(pick.Of(r.Perm(64)[:3]...), pick.Of(r.Perm(64)[:3]...))
	}
}

// The best thing is the first one of those that no other one is ahead of; of nothing there is none.
func TestBest(t *testing.T) {
	longer := func(a, b string) bool { return len(a) > len(b) }
	for i, c := range []struct {
		things []string
		want   string
		ok     bool
	}{
		{nil, "", false},
		{[]string{""}, "", true},
		{[]string{"a", "b"}, "a", true},
		{[]string{"", "b", "cc", "dd", "e"}, "cc", true},
		{[]string{"a", "bb", "ccc"}, "ccc", true},
	} {
		if got, ok := pick.Best(slices.Values(c.things), longer); got != c.want || ok != c.ok {
			t.Errorf("%d: Best = %q, %t", i, got, ok)
		}
	}
}

// Where goes through the numbers from 0 on, once each.
func TestWhere(t *testing.T) {
	for i, c := range []struct {
		many int
		want []int
	}{{0, nil}, {1, nil}, {2, []int{1}}, {8, []int{1, 4, 7}}} {
		asked := 0
		list := pick.Where(c.many, func(n int) bool {
			if n != asked {
				t.Errorf("%d: %d is asked as %d", i, asked, n)
			}
			asked++
			return n%3 == 1
		})
		if !slices.Equal(list, c.want) || asked != c.many {
			t.Errorf("%d: Where = %v; %d were asked", i, list, asked)
		}
	}
}

// Sure is what all things have, and what some thing has; what no thing has is not among the latter.
func TestSure(t *testing.T) {
	for i, c := range []struct {
		things    [][]int
		all, some []int
	}{
		{nil, []int{0, 1, 2, 3}, nil},
		{[][]int{{}}, nil, nil},
		{[][]int{{3, 1}}, []int{1, 3}, []int{1, 3}},
		{[][]int{{3, 1}, {1, 2}}, []int{1}, []int{1, 2, 3}},
		{[][]int{{3, 1}, {}, {1, 3, 7}}, nil, []int{1, 3}},
	} {
		all, some := pick.Sure(slices.Values(c.things), 4, slices.Contains[[]int])
		if !slices.Equal(all, c.all) || !slices.Equal(some, c.some) {
			t.Errorf("%d: Sure = %v, %v", i, all, some)
		}
	}
}

// Lists come in their order, each in memory of its own; a list that nothing can follow is left, and so are all when enough are seen.
func TestLists(t *testing.T) {
	below := func(list []int) []int {
		if n := len(list); n > 0 {
			return []int{0, 1, 2}[:list[n-1]]
		}
		return []int{1, 2, 3}
	}
	for i, c := range []struct {
		many int
		want [][]int
	}{
		{0, [][]int{{}}},
		{1, [][]int{{1}, {2}, {3}}},
		{2, [][]int{{1, 0}, {2, 0}, {2, 1}, {3, 0}, {3, 1}, {3, 2}}},
		{3, [][]int{{2, 1, 0}, {3, 1, 0}, {3, 2, 0}, {3, 2, 1}}},
		{4, [][]int{{3, 2, 1, 0}}},
		{5, nil},
	} {
		if lists := slices.Collect(pick.Lists(c.many, below)); !slices.EqualFunc(lists, c.want, slices.Equal) {
			t.Errorf("%d: Lists = %v", i, lists)
		}
		for n := range len(c.want) {
			var seen [][]int
			for list := range pick.Lists(c.many, below) {
				seen = append(seen, list)
				if len(seen) > n {
					break
				}
			}
			if !slices.EqualFunc(seen, c.want[:n+1], slices.Equal) {
				t.Errorf("%d: the first lists are %v", i, seen)
			}
		}
	}
}

// Orders come in their order, each number once in each; of no numbers there is one, and of five there are 120.
func TestOrders(t *testing.T) {
	for i, want := range [][][]int{{{}}, {{0}}, {{0, 1}, {1, 0}}, {{0, 1, 2}, {0, 2, 1}, {1, 0, 2}, {1, 2, 0}, {2, 0, 1}, {2, 1, 0}}} {
		if orders := slices.Collect(pick.Orders(i)); !slices.EqualFunc(orders, want, slices.Equal) {
			t.Errorf("Orders(%d) = %v", i, orders)
		}
	}
	orders := slices.Collect(pick.Orders(5))
	if len(orders) != 120 || !slices.IsSortedFunc(orders, slices.Compare) || len(slices.CompactFunc(orders, slices.Equal)) != 120 {
		t.Errorf("Orders(5) = %v", orders)
	}
	for _, o := range orders {
		if slices.Sort(o); !slices.Equal(o, []int{0, 1, 2, 3, 4}) {
			t.Errorf("%v is in Orders(5), sorted", o)
		}
	}
}

// Orders of some of the numbers come in their order, each one once, no number twice; of more than there are there is none.
func TestOrdersOf(t *testing.T) {
	for i, c := range []struct {
		some, many int
		want       [][]int
	}{
		{0, 0, [][]int{{}}}, {1, 0, nil}, {0, 3, [][]int{{}}}, {1, 3, [][]int{{0}, {1}, {2}}}, {3, 2, nil},
		{2, 3, [][]int{{0, 1}, {0, 2}, {1, 0}, {1, 2}, {2, 0}, {2, 1}}},
	} {
		if orders := slices.Collect(pick.OrdersOf(c.some, c.many)); !slices.EqualFunc(orders, c.want, slices.Equal) {
			t.Errorf("%d: OrdersOf = %v", i, orders)
		}
	}
	orders := slices.Collect(pick.OrdersOf(4, 6))
	if len(orders) != 360 || !slices.IsSortedFunc(orders, slices.Compare) || len(slices.CompactFunc(orders, slices.Equal)) != 360 {
		t.Errorf("OrdersOf = %v", orders)
	}
	for _, o := range orders {
		if slices.Sort(o); len(slices.Compact(o)) != 4 || o[0] < 0 || o[3] > 5 {
			t.Errorf("%v is in OrdersOf, sorted", o)
		}
	}
}

// contains reports whether a set has all numbers of another one.
func contains(s, other pick.Set) bool { return other&^s == 0 }

// Fewest is the first of the shortest lists for which something holds that holds for all sets that contain one of some; for none, if there are none.
func TestFewest(t *testing.T) {
	r := rand.New(rand.NewSource(2))
	for i := range 300 {
		many := r.Intn(8)
		var given []pick.Set
		for range r.Intn(5) {
			given = append(given, pick.Set(r.Intn(1<<many)))
		}
		var asked []pick.Set
		holds := func(s pick.Set) bool {
			if slices.Contains(asked, s) || !contains(pick.All(many), s) {
				t.Errorf("%d: %v is asked", i, s.List())
			}
			asked = append(asked, s)
			return slices.ContainsFunc(given, func(g pick.Set) bool { return contains(s, g) })
		}
		got, ok := pick.Fewest(many, holds)
		var want []int
		for k, g := range given {
			if l := g.List(); k == 0 || len(l) < len(want) || len(l) == len(want) && slices.Compare(l, want) < 0 {
				want = l
			}
		}
		if !slices.Equal(got.List(), want) || ok != (len(given) > 0) {
			t.Errorf("%d: Fewest = %v, %t, not %v", i, got.List(), ok, want)
		}
		for _, s := range asked {
			for _, g := range given {
				if s != g && contains(s, g) {
					t.Errorf("%d: %v is asked, with all of %v", i, s.List(), g.List())
				}
			}
		}
	}
}
