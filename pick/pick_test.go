package pick_test

import (
	"math/rand"
	"slices"
	"testing"

	"duodecimo/pick"
)

// setOf is the set of some numbers.
func setOf(numbers ...int) pick.Set {
	var s pick.Set
	for _, n := range numbers {
		s |= pick.One(n)
	}
	return s
}

// A set has its numbers, and its list is ascending, up to the greatest number that a set can have.
func TestSet(t *testing.T) {
	for i, list := range [][]int{nil, {0}, {5}, {63}, {0, 1, 2}, {3, 62, 63}, {0, 31, 32, 40}} {
		s := setOf(list...)
		if !slices.Equal(s.List(), list) {
			t.Errorf("%d: List = %v", i, s.List())
		}
		for n := range 64 {
			if s.Has(n) != slices.Contains(list, n) {
				t.Errorf("%d: Has of %d = %t", i, n, s.Has(n))
			}
		}
		if len(list) > 0 && (s.Least() != list[0] || s.Greatest() != list[len(list)-1]) {
			t.Errorf("%d: from %d to %d", i, s.Least(), s.Greatest())
		}
	}
}

// All is the set of the first numbers, of none and of as many as can be.
func TestAll(t *testing.T) {
	var list []int
	for n := range 65 {
		if got := pick.All(n).List(); !slices.Equal(got, list) {
			t.Errorf("All(%d) = %v", n, got)
		}
		list = append(list, n)
	}
}

// A set is ahead of another one if its list is shorter, or as long and comes first.
func TestAhead(t *testing.T) {
	check := func(s, other pick.Set) {
		a, b := s.List(), other.List()
		want := len(a) < len(b) || len(a) == len(b) && slices.Compare(a, b) < 0
		if got := s.Ahead(other); got != want {
			t.Errorf("%v is ahead of %v: %t", a, b, got)
		}
	}
	for s := range pick.All(7) + 1 {
		for other := range pick.All(7) + 1 {
			check(s, other)
		}
	}
	r := rand.New(rand.NewSource(1))
	for range 2000 {
		check(setOf(r.Perm(64)[:3]...), setOf(r.Perm(64)[:3]...))
	}
}

// The best thing is the first one of those that no other one is ahead of; of nothing there is none.
func TestBest(t *testing.T) {
	longer := func(a, b string) bool { return len(a) > len(b) }
	for i, c := range []struct {
		things []string
		want   string
		ok     bool
	}{
		{nil, "", false},
		{[]string{""}, "", true},
		{[]string{"a", "b"}, "a", true},
		{[]string{"", "b", "cc", "dd", "e"}, "cc", true},
		{[]string{"a", "bb", "ccc"}, "ccc", true},
	} {
		if got, ok := pick.Best(slices.Values(c.things), longer); got != c.want || ok != c.ok {
			t.Errorf("%d: Best = %q, %t", i, got, ok)
		}
	}
}
