package paper_test

import (
	"fmt"
	"math/rand"
	"slices"
	"sync"
	"testing"

	"duodecimo/api"
)

// printed is what was there: a case in which nothing is seen wrong, how many sheets each of its reams had, in which order the gatherings were printed, and in which year each stock was made.
type printed struct {
	api.PpCase
	sheets, order, years []int
}

// truth is what was there as a truth.
func (p printed) truth() given {
	l, can := lay(p.PpCase, p.sheets)
	if !can {
		panic(fmt.Sprint("no truth: ", p))
	}
	return giving(l, p.order)
}

// latest is the latest year in which a stock was made that some gathering has.
func (p printed) latest() int {
	year := 0
	for i, y := range p.years {
		if p.truth().printedOn[i] {
			year = max(year, y)
		}
	}
	return year
}

// size says how large a case is.
type size struct{ run, stocks, reams, gatherings, seen int }

// most is the size of the largest cases.
func most() size {
	return size{api.MaxPpRun, api.MaxPpStocks, api.MaxPpReams, api.MaxPpGatherings, api.MaxPpSeen}
}

// someSize is the size of some case.
func someSize(r *rand.Rand) size {
	runs := []int{1, 2, 3, 4, 10, 100, api.MaxPpRun}
	return size{runs[r.Intn(len(runs))], 1 + r.Intn(api.MaxPpStocks), 1 + r.Intn(api.MaxPpReams), 1 + r.Intn(api.MaxPpGatherings), r.Intn(api.MaxPpSeen + 1)}
}

// someSheets are how many sheets reams have that are enough: many reams end where a place does, or about there.
func someSheets(r *rand.Rand, s size) []int {
	var list []int
	top := 0
	for range s.reams - 1 {
		bottom := top + 1 + r.Intn(s.run*s.gatherings)
		if r.Intn(3) > 0 {
			bottom = s.run*(1+r.Intn(s.gatherings)) + r.Intn(5) - 2
		}
		n := min(max(bottom-top, 1), api.MaxPpSheets)
		list, top = append(list, n), top+n
	}
	last := max(s.run*s.gatherings-top, 1) + r.Intn(4)
	if last > api.MaxPpSheets {
		return someSheets(r, s) // the others have too few
	}
	return append(list, last)
}

// about is a span of at most so many numbers with this one, from the one to the other end.
func about(r *rand.Rand, n, wide, least, greatest int) api.Span {
	lo := max(least, n-r.Intn(wide))
	return span(lo, min(greatest, max(n, lo+r.Intn(wide))))
}

// somePrinted is something that was printed, of so many things; reams have known numbers of sheets if they are known.
func somePrinted(r *rand.Rand, s size, known bool) printed {
	if s.run*s.gatherings > api.MaxPpSheets {
		s.reams = max(s.reams, 2)
	}
	p := printed{sheets: someSheets(r, s), order: r.Perm(s.gatherings)}
	p.Run, p.Gatherings = s.run, s.gatherings
	for i := range s.stocks {
		year := api.MinYear + r.Intn(api.MaxYear-api.MinYear+1)
		p.years = append(p.years, year)
		p.Stocks = append(p.Stocks, api.PpStock{Name: fmt.Sprint("s", i), Made: about(r, year, 150, api.MinYear, api.MaxYear)})
	}
	for i, n := range p.sheets {
		sheets := about(r, n, 1+api.MaxPpWide, 1, api.MaxPpSheets)
		sheets.Hi = min(sheets.Hi, sheets.Lo+api.MaxPpWide)
		if known {
			sheets = span(n, n)
		}
		p.Reams = append(p.Reams, api.PpReam{Stock: (i + r.Intn(4)/3) % s.stocks, Sheets: sheets})
	}
	p.Seen = someSeen(r, p.truth(), s.seen)
	return p
}

// someSeen are so many things that are seen of a truth, some of them more than once.
func someSeen(r *rand.Rand, g given, many int) []api.PpSeen {
	var list []api.PpSeen
	for len(list) < many {
		s := seen(g.order[r.Intn(len(g.order))], r.Intn(api.MaxPpStocks))
		if g.on[s.Gathering][s.Stock] {
			list = append(list, s)
		}
	}
	return list
}

// mistaken is a case in which at most so many things are seen otherwise.
func mistaken(r *rand.Rand, c api.PpCase, many int) api.PpCase {
	c = cloned(c)
	for i := range min(many, len(c.Seen)) {
		c.Seen[i] = seen(r.Intn(c.Gatherings), r.Intn(len(c.Stocks)))
	}
	r.Shuffle(len(c.Seen), func(i, k int) { c.Seen[i], c.Seen[k] = c.Seen[k], c.Seen[i] })
	return c
}

// specialCases are cases at the limits, and with a pile that is just enough, or just too small.
func specialCases() []api.PpCase {
	full := ream(0, 1998, 2000)
	one := []api.PpReam{ream(1, 1, 1)}
	four := []api.PpReam{ream(0, 1, 3), ream(1, 1, 3), ream(0, 1, 3), ream(2, 1, 3)}
	large := caseOf(500, 5, []api.PpReam{ream(0, 498, 500), ream(1, 499, 501), ream(2, 500, 502), ream(3, 998, 1000)})
	large.Stocks = append(large.Stocks, stock("crown", api.MinYear, api.MaxYear))
	eight := []api.PpSeen{seen(4, 0), seen(3, 1), seen(2, 2), seen(1, 3), seen(0, 3), seen(0, 3), seen(4, 0), seen(3, 0)}
	return []api.PpCase{
		example(), contradictory(), tooSmall(), seeing(example()), seeing(tooSmall(), seen(0, 0), seen(2, 2)),
		caseOf(1, 1, one), caseOf(1, 1, one, seen(0, 1)), caseOf(1, 1, one, seen(0, 0)), caseOf(2, 1, one),
		caseOf(1, 5, four), caseOf(2, 5, four), caseOf(2, 5, four, seen(4, 2), seen(0, 1)), caseOf(3, 4, four), caseOf(4, 3, four), caseOf(13, 1, four), caseOf(12, 1, four),
		caseOf(500, 5, []api.PpReam{full, full, full, full}), caseOf(500, 5, []api.PpReam{full, ream(1, 499, 501)}),
		caseOf(500, 5, []api.PpReam{full}), caseOf(400, 5, []api.PpReam{full}), caseOf(500, 5, []api.PpReam{full, ream(2, 500, 500)}, seen(0, 2), seen(1, 2)),
		large, seeing(large, eight...), seeing(large, eight[:5]...), seeing(large, eight[3:]...),
	}
}

// cases are cases without an error, always the same ones.
var cases = sync.OnceValue(func() []api.PpCase {
	r := rand.New(rand.NewSource(6))
	list := specialCases()
	for i := range 400 {
		s := someSize(r)
		switch i % 8 {
		case 0:
			s = most()
		case 1, 2, 3:
			s = size{1 + r.Intn(4), 3 + r.Intn(2), 3 + r.Intn(2), 3 + r.Intn(3), 4 + r.Intn(5)}
		}
		c := mistaken(r, somePrinted(r, s, i%5 == 0).PpCase, []int{0, 0, 0, 1, 3, 8}[r.Intn(6)])
		if i%16 == 7 && c.Run < api.MaxPpRun {
			c.Run++ // the pile can be too small now
		}
		list = append(list, c)
	}
	return list
})

// answers are what is told of each of the cases, asked once for all tests.
func answers(t *testing.T) []told {
	t.Helper()
	all.Do(func() {
		for _, c := range cases() {
			allAnswers = append(allAnswers, tell(t, c))
		}
	})
	return allAnswers
}

var (
	all        sync.Once
	allAnswers []told
)

// models are what must be told of each of the cases.
var models = sync.OnceValue(func() []told {
	var list []told
	for _, c := range cases() {
		list = append(list, modelled(c))
	}
	return list
})

// renamed is a case whose gatherings are numbered the other way round.
func renamed(c api.PpCase) api.PpCase {
	c = cloned(c)
	for i := range c.Seen {
		c.Seen[i].Gathering = c.Gatherings - 1 - c.Seen[i].Gathering
	}
	return c
}

// turned is a case whose pile is turned upside down.
func turned(c api.PpCase) api.PpCase {
	c = cloned(c)
	slices.Reverse(c.Reams)
	return c
}

// parted is a case of which a ream of a known number of sheets is parted, the first part with so many sheets.
func parted(c api.PpCase, at, first int) api.PpCase {
	c = cloned(c)
	r := c.Reams[at]
	c.Reams[at].Sheets = span(first, first)
	c.Reams = slices.Insert(c.Reams, at+1, ream(r.Stock, r.Sheets.Lo-first, r.Sheets.Lo-first))
	return c
}
