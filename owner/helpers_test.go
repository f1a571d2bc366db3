package owner_test

import (
	"math"
	"slices"
	"sync"
	"testing"

	"duodecimo/api"
	"duodecimo/owner"
)

// none is upon what a mark lies that lies upon none, and who sold or bought a copy if this is not known.
const none = api.OwNone

func span(lo, hi int) api.Span { return api.Span{Lo: lo, Hi: hi} }

func person(name string, born, died int) api.OwOwner {
	return api.OwOwner{Name: name, Born: born, Died: died}
}

func mark(owner, lo, hi, upon int) api.OwMark {
	return api.OwMark{Owner: owner, Year: span(lo, hi), Upon: upon}
}

func sale(year, from, to int) api.OwSale { return api.OwSale{Year: year, From: from, To: to} }

func hold(owner, from, to int) api.OwHold { return api.OwHold{Owner: owner, From: from, To: to} }

// The owners of the chapter's example.
const (
	ann = 0
	ben = 1
	cid = 2
	dot = 3
)

// example is C of the chapter's examples.
func example() api.OwCase {
	return api.OwCase{
		Printed: 1600, Now: 1700,
		Owners: []api.OwOwner{person("ann", 1580, 1640), person("ben", 1600, 1660), person("cid", 1665, 1720), person("dot", 1650, 1690)},
		Marks:  []api.OwMark{mark(ann, 1610, 1620, none), mark(ben, 1615, 1630, 0), mark(cid, 1680, 1685, none)},
	}
}

// second is D of the chapter's examples.
func second() api.OwCase {
	return api.OwCase{Printed: 1640, Now: 1700, Owners: []api.OwOwner{person("dot", 1650, 1690)}}
}

// but is the example after a change.
func but(change func(*api.OwCase)) api.OwCase {
	c := example()
	change(&c)
	return c
}

// marked is a case with some more marks.
func marked(c api.OwCase, marks ...api.OwMark) api.OwCase {
	c = cloned(c)
	c.Marks = append(c.Marks, marks...)
	return c
}

// sold is a case with some more sales.
func sold(c api.OwCase, sales ...api.OwSale) api.OwCase {
	c = cloned(c)
	c.Sales = append(c.Sales, sales...)
	return c
}

// lived is a case with so many owners, who can have lived in all of its years.
func lived(printed, now, owners int) api.OwCase {
	c := api.OwCase{Printed: printed, Now: now}
	for i := range owners {
		c.Owners = append(c.Owners, person(string(rune('a'+i)), 0, 9999))
	}
	return c
}

// cloned is a case that shares no memory with the other one.
func cloned(c api.OwCase) api.OwCase {
	c.Owners, c.Marks, c.Sales = slices.Clone(c.Owners), slices.Clone(c.Marks), slices.Clone(c.Sales)
	return c
}

// same reports whether two cases are the same.
func same(c, d api.OwCase) bool {
	return c.Printed == d.Printed && c.Now == d.Now && slices.Equal(c.Owners, d.Owners) && slices.Equal(c.Marks, d.Marks) && slices.Equal(c.Sales, d.Sales)
}

// without is a case without some marks, given ascending: what lies upon one of them lies upon none then.
func without(c api.OwCase, marks []int) api.OwCase {
	c = cloned(c)
	for _, gone := range slices.Backward(marks) {
		c.Marks = slices.Delete(c.Marks, gone, gone+1)
		for i, m := range c.Marks {
			if m.Upon == gone {
				c.Marks[i].Upon = none
			} else if m.Upon > gone {
				c.Marks[i].Upon--
			}
		}
	}
	return c
}

// known is a case in which a mark is known to be of a year.
func known(c api.OwCase, mark, year int) api.OwCase {
	c = cloned(c)
	c.Marks[mark].Year = span(year, year)
	return c
}

// lists are all lists of numbers below n that are so, the shortest first, of those that are as long the first ones compared number by number.
func lists(n int, isSo func([]int) bool) [][]int {
	all, longest := [][]int{{}}, [][]int{{}}
	for range n {
		var longer [][]int
		for _, l := range longest {
			for i := range n {
				if next := append(slices.Clone(l), i); isSo(next) {
					longer = append(longer, next)
				}
			}
		}
		longest = longer
		all = append(all, longest...)
	}
	return all
}

// allOrders are, by how many owners there are, all orders of some of them.
var allOrders = sync.OnceValue(func() [][][]int {
	var all [][][]int
	for n := range api.MaxOwOwners + 1 {
		all = append(all, lists(n, func(l []int) bool { return !slices.Contains(l[:len(l)-1], l[len(l)-1]) }))
	}
	return all
})

// subsets are, by how many marks there are, all lists of some of them, ascending.
var subsets = sync.OnceValue(func() [][][]int {
	var all [][][]int
	for n := range api.MaxOwMarks + 1 {
		all = append(all, lists(n, func(l []int) bool { return len(l) < 2 || l[len(l)-2] < l[len(l)-1] }))
	}
	return all
})

// ordersOf are all orders of some owners of a case.
func ordersOf(c api.OwCase) [][]int { return allOrders()[len(c.Owners)] }

// unknownOf is how many unknown owners a chain has.
func unknownOf(c api.OwCase, holds []api.OwHold) int {
	if len(holds) == 0 {
		return 1
	}
	many := 0
	for i, h := range holds {
		if i == 0 && h.From > c.Printed || i > 0 && h.From > holds[i-1].To {
			many++
		}
	}
	if holds[len(holds)-1].To < c.Now {
		many++
	}
	return many
}

// asked are some years of a case, about all years that it names; all of them, if there are few.
func asked(c api.OwCase) []int {
	var list []int
	about := func(years ...int) {
		for _, y := range years {
			for _, near := range []int{y - 1, y, y + 1} {
				if near >= c.Printed && near <= c.Now {
					list = append(list, near)
				}
			}
		}
	}
	about(c.Printed, c.Now, (c.Printed+c.Now)/2)
	for _, o := range c.Owners {
		about(o.Born, o.Died)
	}
	for _, m := range c.Marks {
		about(m.Year.Lo, m.Year.Hi)
	}
	for _, s := range c.Sales {
		about(s.Year)
	}
	slices.Sort(list)
	list = slices.Compact(list)
	if most := 12; len(list) > most {
		for i := range most {
			list[i] = list[i*(len(list)-1)/(most-1)]
		}
		list = list[:most]
	}
	return list
}

// impossible is told of an order that has no chain.
const impossible = -1

// told is what all functions but Check and Both say of a case.
type told struct {
	holds   []api.OwHold
	unknown int
	why     []int       // of all orders
	before  [][]int     // of any two owners
	years   []api.Span  // of all marks
	owned   [][]int     // of some years
	forged  []int       // marks
	zero    api.Errno   // of Chain, Year, Owned, and of Before of two owners
	down    api.Errno   // of Forged
	errors  []api.Errno // that must not be there
}

// tell asks all functions but Check and Both of a case without an error.
func tell(c api.OwCase) told {
	var x told
	expect := func(e, want api.Errno) {
		if e != want {
			x.errors = append(x.errors, e)
		}
	}
	x.holds, x.unknown, x.zero = owner.Chain(c)
	for _, order := range ordersOf(c) {
		n, e := owner.Why(c, order)
		if e == api.ErrDown {
			n, e = impossible, api.OK
		}
		expect(e, api.OK)
		x.why = append(x.why, n)
	}
	x.before = make([][]int, len(c.Owners))
	for a := range c.Owners {
		for b := range c.Owners {
			n, e := owner.Before(c, a, b)
			if a == b {
				expect(e, api.ErrArg)
			} else {
				expect(e, x.zero)
			}
			x.before[a] = append(x.before[a], n)
		}
	}
	for i := range c.Marks {
		year, e := owner.Year(c, i)
		expect(e, x.zero)
		x.years = append(x.years, year)
	}
	for _, year := range asked(c) {
		list, e := owner.Owned(c, year)
		expect(e, x.zero)
		x.owned = append(x.owned, list)
	}
	x.forged, x.down = owner.Forged(c)
	return x
}

// differ says in what two answers differ.
func differ(x, y told) string {
	switch {
	case len(x.errors)+len(y.errors) > 0 || x.zero != y.zero || x.down != y.down:
		return "errors"
	case !slices.Equal(x.holds, y.holds) || x.unknown != y.unknown:
		return "Chain"
	case !slices.Equal(x.why, y.why):
		return "Why"
	case !slices.EqualFunc(x.before, y.before, slices.Equal):
		return "Before"
	case !slices.Equal(x.years, y.years):
		return "Year"
	case !slices.EqualFunc(x.owned, y.owned, slices.Equal):
		return "Owned"
	case !slices.Equal(x.forged, y.forged):
		return "Forged"
	}
	return ""
}

// inAll makes what is said of each of so many things, some at a time.
func inAll[T any](many int, say func(int) T) []T {
	list := make([]T, many)
	var wait sync.WaitGroup
	places := make(chan bool, 16)
	for i := range many {
		places <- true
		wait.Go(func() {
			list[i] = say(i)
			<-places
		})
	}
	wait.Wait()
	return list
}

// expectList checks a list of numbers that was told without an error.
func expectList(t *testing.T, what string, got []int, e api.Errno, want ...int) {
	t.Helper()
	if !slices.Equal(got, want) || e != api.OK {
		t.Errorf("%s = %v, %d, not %v", what, got, e, want)
	}
}

// numbers are ints far beyond all limits, and about some.
func numbers(limits ...int) []int {
	list := []int{math.MinInt, math.MinInt + 1, -1, math.MaxInt - 1, math.MaxInt}
	for _, n := range limits {
		list = append(list, n-1, n, n+1)
	}
	return list
}
