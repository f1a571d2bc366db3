package owner_test

import (
	"math/rand"
	"slices"
	"sync"

	"duodecimo/api"
)

// size says how many years there are behind that of printing, and how many owners, marks and sales there are at most.
type size struct{ years, owners, marks, sales int }

// someSize is the size of some case.
func someSize(r *rand.Rand) size {
	years := []int{0, 1, 3, 8, 15}
	return size{years[r.Intn(len(years))], r.Intn(api.MaxOwOwners + 1), r.Intn(api.MaxOwMarks + 1), r.Intn(api.MaxOwSales + 1)}
}

// most is the size of the cases with the most owners, marks, sales and years.
func most() size {
	return size{api.MaxYear - api.MinYear, api.MaxOwOwners, api.MaxOwMarks, api.MaxOwSales}
}

// someYear is a year of a span.
func someYear(r *rand.Rand, s api.Span) int { return s.Lo + r.Intn(s.Hi-s.Lo+1) }

// about is a span about a year of a case, which marks can have.
func about(r *rand.Rand, c api.OwCase, year int) api.Span {
	wide := []int{0, 1, 3, api.MaxOwWide}[r.Intn(4)]
	lo := max(c.Printed, year-r.Intn(wide+1))
	return span(lo, min(c.Now, lo+api.MaxOwWide, year+r.Intn(wide+1)))
}

// someLife is about from when to when somebody lived who had the copy from a year to another one.
func someLife(r *rand.Rand, name string, from, to int) api.OwOwner {
	near := []int{1, 3, 40}[r.Intn(3)]
	return person(name, max(0, from-r.Intn(near)), min(9999, to+r.Intn(near)))
}

// someHolds are some of so many owners, one behind the other, some of them unknown.
func someHolds(r *rand.Rand, c api.OwCase, owners int) []api.OwHold {
	var years []int
	many, near := r.Intn(owners+1), r.Intn(4)
	if r.Intn(3) == 0 {
		many = owners
	}
	for range 2 * many {
		years = append(years, someYear(r, span(c.Printed, c.Now)))
	}
	slices.Sort(years)
	var holds []api.OwHold
	for i, owner := range r.Perm(owners)[:many] {
		h := hold(owner, years[2*i], years[2*i+1])
		if r.Intn(3) < near { // nobody was in between
			h.From = c.Printed
			if i > 0 {
				h.From = holds[i-1].To
			}
		}
		if i == many-1 && r.Intn(2) == 0 {
			h.To = c.Now
		}
		holds = append(holds, h)
	}
	return holds
}

// makeMark adds one more mark of a chain, and its year.
func (h *history) makeMark(r *rand.Rand) {
	x := h.holds[r.Intn(len(h.holds))]
	year := someYear(r, span(x.From, x.To))
	m := api.OwMark{Owner: x.Owner, Year: about(r, h.OwCase, year), Upon: none}
	for i, under := range h.Marks {
		if h.made[i] <= year && h.at(under.Owner) <= h.at(x.Owner) && r.Intn(2) == 0 {
			m.Upon = i
		}
	}
	h.Marks, h.made = append(h.Marks, m), append(h.made, year)
}

// tellSale adds one more sale of a chain, in which not both need be known.
func (h *history) tellSale(r *rand.Rand) {
	i := r.Intn(len(h.holds))
	x := h.holds[i]
	s := sale(x.From, none, x.Owner)
	if r.Intn(2) == 0 {
		s = sale(x.To, x.Owner, none)
		if i+1 < len(h.holds) && h.holds[i+1].From == x.To && r.Intn(3) > 0 {
			s.To = h.holds[i+1].Owner
		}
	}
	h.Sales = append(h.Sales, s)
	if len(h.Sales) < api.MaxOwSales && r.Intn(4) == 0 {
		h.Sales = append(h.Sales, s)
	}
}

// someHistory is a chain of at most this size, and a case in which marks and sales are told of it.
func someHistory(r *rand.Rand, s size) history {
	printed := []int{api.MinYear, 1600, api.MaxYear - s.years}[r.Intn(3)]
	if printed+s.years > api.MaxYear {
		printed = api.MinYear
	}
	h := history{OwCase: lived(printed, printed+s.years, s.owners)}
	for i, o := range h.Owners {
		year := someYear(r, span(h.Printed, h.Now))
		h.Owners[i] = someLife(r, o.Name, year, year)
	}
	h.holds = someHolds(r, h.OwCase, s.owners)
	for _, x := range h.holds {
		h.Owners[x.Owner] = someLife(r, h.Owners[x.Owner].Name, x.From, x.To)
	}
	if len(h.holds) > 0 {
		for range s.marks {
			h.makeMark(r)
		}
		for len(h.Sales) < s.sales {
			h.tellSale(r)
		}
	}
	return h
}

// someMark is a mark that can be the next one of a case with owners.
func someMark(r *rand.Rand, c api.OwCase, before int) api.OwMark {
	year := someYear(r, span(c.Printed, c.Now))
	return api.OwMark{Owner: r.Intn(len(c.Owners)), Year: about(r, c, year), Upon: r.Intn(before+1) - 1}
}

// someSale is a sale that a case with owners can have.
func someSale(r *rand.Rand, c api.OwCase) api.OwSale {
	from, to := r.Intn(len(c.Owners)), r.Intn(len(c.Owners)+1)-1
	if from == to {
		to = none
	}
	if r.Intn(2) == 0 {
		from, to = to, from
	}
	return sale(someYear(r, span(c.Printed, c.Now)), from, to)
}

// disturbed is a case in which so many marks, sales and lives are others.
func disturbed(r *rand.Rand, c api.OwCase, many int) api.OwCase {
	c = cloned(c)
	for range many {
		switch what := r.Intn(4); {
		case what == 0 && len(c.Sales) > 0:
			c.Sales[r.Intn(len(c.Sales))] = someSale(r, c)
		case what == 1 && len(c.Owners) > 0:
			i := r.Intn(len(c.Owners))
			year := someYear(r, span(c.Printed, c.Now))
			c.Owners[i] = someLife(r, c.Owners[i].Name, year, year)
		case len(c.Marks) > 0:
			i := r.Intn(len(c.Marks))
			c.Marks[i] = someMark(r, c, i)
		}
	}
	return c
}

// specialCases are cases at the limits, and in which no chain is there.
func specialCases() []api.OwCase {
	short, long := lived(1600, 1603, 6), lived(1450, 1850, 3)
	apart := lived(1600, 1610, 3)
	for i := range apart.Owners {
		apart.Owners[i] = person(apart.Owners[i].Name, 1600+4*i, 1602+4*i)
	}
	gone := lived(1600, 1605, 3)
	gone.Owners[0].Died, gone.Owners[1].Born = 1599, 1606
	return []api.OwCase{
		example(), second(), marked(example(), mark(dot, 1610, 1615, none)), sold(example(), sale(1655, ben, dot)),
		lived(1600, 1600, 0), lived(1450, 1850, 0), sold(lived(1600, 1600, 1), sale(1600, none, 0), sale(1600, 0, none)), lived(1850, 1850, 6),
		short, marked(short, mark(0, 1600, 1600, none), mark(1, 1600, 1603, 0), mark(2, 1600, 1603, 1), mark(3, 1600, 1603, 2), mark(4, 1600, 1603, 3), mark(5, 1600, 1603, 4), mark(0, 1600, 1603, 0), mark(5, 1603, 1603, 5)),
		marked(short, mark(0, 1600, 1600, none), mark(1, 1600, 1603, 0), mark(0, 1600, 1603, 1), mark(1, 1600, 1603, 2)),
		sold(short, sale(1600, 0, 1), sale(1601, 1, 2), sale(1602, 2, 3), sale(1603, 3, 4)), sold(short, sale(1600, 0, 1), sale(1600, 1, 0)),
		sold(short, sale(1601, 0, 1), sale(1601, 0, 2)), sold(short, sale(1601, none, 1), sale(1602, none, 1)), sold(short, sale(1602, none, 1), sale(1601, 1, none)),
		long, marked(long, mark(0, 1450, 1490, none), mark(2, 1700, 1740, none), mark(1, 1810, 1850, 1), mark(0, 1470, 1500, 0)), sold(long, sale(1500, 0, none), sale(1600, none, 0)),
		apart, marked(apart, mark(0, 1603, 1610, none), mark(1, 1604, 1604, none)), gone, marked(gone, mark(0, 1600, 1605, none), mark(1, 1600, 1605, none), mark(2, 1600, 1605, 0)), sold(gone, sale(1600, 0, none)), sold(gone, sale(1605, 2, 1)),
		marked(sold(apart, sale(1605, 1, 2)), mark(0, 1600, 1600, none)),
	}
}

// seed is from where random numbers of a test start.
func seed(n int64) *rand.Rand { return rand.New(rand.NewSource(n)) }

// cases are cases without an error, always the same ones.
var cases = sync.OnceValue(func() []api.OwCase {
	r := seed(8)
	list := specialCases()
	for i := range 400 {
		s := someSize(r)
		switch i % 20 {
		case 0:
			s = size{50, 4, api.MaxOwMarks, api.MaxOwSales}
		case 1:
			s = size{api.MaxYear - api.MinYear, 2, 4, 1}
		case 2, 3:
			s = size{12, api.MaxOwOwners, api.MaxOwMarks, api.MaxOwSales}
		case 4, 5, 6:
			s.marks, s.sales = r.Intn(4), r.Intn(2)
		}
		list = append(list, disturbed(r, someHistory(r, s).OwCase, []int{0, 0, 1, 1, 2, 8}[r.Intn(6)]))
	}
	return list
})

// largest are cases of all years with the most owners, and as many marks and sales, or none.
var largest = sync.OnceValue(func() []api.OwCase {
	r := seed(88)
	var list []api.OwCase
	for i := range 80 {
		s := most()
		if i%8 == 0 {
			s.marks, s.sales = 0, 0
		}
		list = append(list, disturbed(r, someHistory(r, s).OwCase, r.Intn(3)))
	}
	return list
})

// small are cases of which all chains can be gone through.
var small = sync.OnceValue(func() []api.OwCase {
	r := seed(808)
	var list []api.OwCase
	for range 600 {
		s := size{r.Intn(4), r.Intn(4), r.Intn(4), r.Intn(3)}
		list = append(list, disturbed(r, someHistory(r, s).OwCase, r.Intn(3)))
	}
	return list
})

// answers are what is told of each of the cases, asked once for all tests.
var answers = sync.OnceValue(func() []told {
	return inAll(len(cases()), func(i int) told { return tell(cases()[i]) })
})

// largestAnswers are what is told of each of the largest cases, asked once for all tests.
var largestAnswers = sync.OnceValue(func() []told {
	return inAll(len(largest()), func(i int) told { return tell(largest()[i]) })
})
