package check_test

import (
	"math"
	"testing"

	"duodecimo/api"
	"duodecimo/check"
)

// Both ends belong to the range, and each number is looked at.
func TestWithin(t *testing.T) {
	for i, c := range []struct {
		lo, hi  int
		numbers []int
		want    bool
	}{
		{1, 3, nil, true},
		{1, 3, []int{1, 2, 3}, true},
		{1, 3, []int{0}, false},
		{1, 3, []int{4}, false},
		{1, 3, []int{1, 2, 4}, false},
		{1, 3, []int{0, 2, 3}, false},
		{0, -1, []int{0}, false},
		{0, 9, []int{math.MinInt}, false},
		{0, 9, []int{math.MaxInt}, false},
	} {
		if got := check.Within(c.lo, c.hi, c.numbers...); got != c.want {
			t.Errorf("%d: Within = %t", i, got)
		}
	}
}

// Numbers that are the same are not ascending, wherever they are.
func TestAscending(t *testing.T) {
	for i, c := range []struct {
		numbers []int
		want    bool
	}{
		{nil, true},
		{[]int{5}, true},
		{[]int{-1, 0, 1, 7}, true},
		{[]int{math.MinInt, math.MaxInt}, true},
		{[]int{math.MaxInt, math.MinInt}, false},
		{[]int{2, 2}, false},
		{[]int{2, 1, 3}, false},
		{[]int{1, 2, 3, 3}, false},
		{[]int{1, 3, 2, 4}, false},
	} {
		if got := check.Ascending(c.numbers...); got != c.want {
			t.Errorf("%d: Ascending = %t", i, got)
		}
	}
}

// An end that is out of range comes before a span that is empty, whichever span it is in.
func TestSpans(t *testing.T) {
	for i, c := range []struct {
		spans []api.Span
		want  api.Errno
	}{
		{nil, api.OK},
		{[]api.Span{{Lo: 1, Hi: 9}, {Lo: 5, Hi: 5}}, api.OK},
		{[]api.Span{{Lo: 0, Hi: 9}}, api.ErrRange},
		{[]api.Span{{Lo: 1, Hi: 10}}, api.ErrRange},
		{[]api.Span{{Lo: 6, Hi: 5}}, api.ErrArg},
		{[]api.Span{{Lo: 5, Hi: 5}, {Lo: 6, Hi: 5}}, api.ErrArg},
		{[]api.Span{{Lo: 6, Hi: 5}, {Lo: 10, Hi: 10}}, api.ErrRange},
		{[]api.Span{{Lo: 6, Hi: 0}}, api.ErrRange},
		{[]api.Span{{Lo: math.MaxInt, Hi: math.MinInt}}, api.ErrRange},
	} {
		if e := check.Spans(1, 9, c.spans...); e != c.want {
			t.Errorf("%d: Spans = %d", i, e)
		}
	}
}

// The first element with an error decides, and none behind it is looked at.
func TestFirst(t *testing.T) {
	for i, c := range []struct {
		list  []api.Errno
		at    int
		e     api.Errno
		asked int
	}{
		{nil, 0, api.OK, 0},
		{[]api.Errno{api.OK, api.OK}, 0, api.OK, 2},
		{[]api.Errno{api.OK, api.ErrLong, api.ErrArg}, 1, api.ErrLong, 2},
		{[]api.Errno{api.ErrArg, api.OK}, 0, api.ErrArg, 1},
	} {
		asked := 0
		at, e := check.First(c.list, func(j int, x api.Errno) api.Errno {
			if j != asked {
				t.Errorf("%d: element %d is asked as %d", i, asked, j)
			}
			asked++
			return x
		})
		if at != c.at || e != c.e || asked != c.asked {
			t.Errorf("%d: First = %d, %d; %d were asked", i, at, e, asked)
		}
	}
}

// How long a list is comes before its elements, none of which is looked at then.
func TestList(t *testing.T) {
	for i, c := range []struct {
		lo, hi int
		list   []api.Errno
		at     int
		e      api.Errno
		asked  int
	}{
		{0, 2, nil, 0, api.OK, 0},
		{1, 2, nil, 0, api.ErrLong, 0},
		{1, 2, []api.Errno{api.ErrArg}, 0, api.ErrArg, 1},
		{1, 2, []api.Errno{api.OK, api.ErrArg}, 1, api.ErrArg, 2},
		{1, 2, []api.Errno{api.OK, api.OK}, 0, api.OK, 2},
		{1, 2, []api.Errno{api.OK, api.ErrArg, api.OK}, 0, api.ErrLong, 0},
		{3, 3, []api.Errno{api.OK, api.OK, api.ErrForm}, 2, api.ErrForm, 3},
		{3, 3, []api.Errno{api.ErrForm, api.OK}, 0, api.ErrLong, 0},
	} {
		asked := 0
		at, e := check.List(c.lo, c.hi, c.list, func(_ int, x api.Errno) api.Errno {
			asked++
			return x
		})
		if at != c.at || e != c.e || asked != c.asked {
			t.Errorf("%d: List = %d, %d; %d were asked", i, at, e, asked)
		}
	}
}

// A value was there again if the same function was given it before.
func TestAgain(t *testing.T) {
	again := check.Again[string]()
	for i, c := range []struct {
		s    string
		want bool
	}{{"a", false}, {"b", false}, {"a", true}, {"", false}, {"", true}, {"b", true}, {"a", true}, {"c", false}} {
		if got := again(c.s); got != c.want {
			t.Errorf("%d: again(%q) = %t", i, c.s, got)
		}
	}
	if check.Again[string]()("a") {
		t.Error("a new function was given nothing before")
	}
	type pair struct{ a, b int }
	twice := check.Again[pair]()
	if twice(pair{1, 2}) || twice(pair{2, 1}) || !twice(pair{1, 2}) {
		t.Error("pairs are the same if both numbers are")
	}
}

// What is no name is no name each time; the same name of another list was not there before.
func TestNames(t *testing.T) {
	isName := func(s string) bool { return s != "" }
	nameError := check.Names(isName)
	for i, c := range []struct {
		s    string
		want api.Errno
	}{{"a", api.OK}, {"", api.ErrForm}, {"", api.ErrForm}, {"b", api.OK}, {"a", api.ErrTwice}, {"a", api.ErrTwice}, {"b", api.ErrTwice}, {"c", api.OK}} {
		if e := nameError(c.s); e != c.want {
			t.Errorf("%d: the error of %q is %d", i, c.s, e)
		}
	}
	if e := check.Names(isName)("a"); e != api.OK {
		t.Errorf("the error of the first name of another list is %d", e)
	}
}
