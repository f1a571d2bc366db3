package sale_test

import (
	"math/rand"
	"slices"
	"sync"

	"duodecimo/api"
)

// size says how many steps, bidders, sellers, lots and bids there are, and how high prices are, about.
type size struct{ steps, bidders, sellers, lots, bids, high int }

// someSize is the size of some sale. Without sellers there are no lots, and without lots no bids.
func someSize(r *rand.Rand) size {
	x := size{1 + r.Intn(api.MaxSaSteps), r.Intn(api.MaxSaBidders + 1), r.Intn(api.MaxSaSellers + 1), r.Intn(api.MaxSaLots + 1), r.Intn(api.MaxSaBids + 1), someHigh(r)}
	return x.possible()
}

// crowded is the size of a sale of few lots with many bids for each.
func crowded(r *rand.Rand) size {
	x := size{1 + r.Intn(api.MaxSaSteps), 4 + r.Intn(3), 1 + r.Intn(2), 1 + r.Intn(4), api.MaxSaBids, someHigh(r)}
	return x.possible()
}

// someHigh is how high prices are.
func someHigh(r *rand.Rand) int {
	return oneOf(r, 12, 40, 40, 150, 150, 1000, 1000, 20000, api.MaxSaPrice)
}

// largest is the size of the largest sales.
func largest(r *rand.Rand) size {
	return size{api.MaxSaSteps, api.MaxSaBidders, api.MaxSaSellers, api.MaxSaLots, api.MaxSaBids, someHigh(r)}
}

// possible is a size that a sale can have.
func (x size) possible() size {
	if x.sellers == 0 {
		x.lots = 0
	}
	x.bids = min(x.bids, x.bidders*x.lots)
	return x
}

// someSteps are some steps; the later ones begin at prices that are bid, mostly.
func someSteps(r *rand.Rand, x size) []api.SaStep {
	steps := []api.SaStep{step(0, 1+r.Intn(max(1, x.high/6)))}
	for range x.steps - 1 {
		from := steps[len(steps)-1].From + 1 + r.Intn(max(1, x.high/4))
		if from > api.MaxSaPrice {
			break
		}
		steps = append(steps, step(from, oneOf(r, 1+r.Intn(max(1, x.high/20)), 1+r.Intn(max(1, x.high/3)), 1+r.Intn(5), 10)))
	}
	if r.Intn(20) == 0 {
		steps[len(steps)-1].By = api.MaxSaPrice
	}
	return steps
}

// someMost is what a bidder gives for a lot: anything, what another one gives, or about one of the prices of the lot.
func someMost(r *rand.Rand, s api.SaSale, lot int, high int) int {
	most := 1 + r.Intn(high)
	switch r.Intn(4) {
	case 0:
		for _, b := range s.Bids {
			if b.Lot == lot {
				most = b.Most
			}
		}
	case 1:
		price := s.Lots[lot].Reserve
		for range r.Intn(6) {
			price += byOf(s, price)
		}
		most = price + r.Intn(3) - 1
	}
	return max(1, min(api.MaxSaPrice, most))
}

// someSale is a sale of a size.
func someSale(r *rand.Rand, x size) api.SaSale {
	s := api.SaSale{Steps: someSteps(r, x), Premium: someMille(r), Fee: someMille(r), Days: oneOf(r, 0, 1, 14, api.MaxSaDays)}
	// A seller can have the name of a bidder, and so can a lot.
	s.Bidders, s.Sellers = named("a", x.bidders), named("a", x.sellers)
	for _, name := range named("a", x.lots) {
		l := lot(name, r.Intn(x.sellers), 1+r.Intn(oneOf(r, 1, max(1, x.high/3), x.high)))
		l.Defect = r.Intn(2) == 0
		s.Lots = append(s.Lots, l)
	}
	if x.bids == 0 {
		return s
	}
	for _, n := range r.Perm(x.bidders * x.lots)[:x.bids] {
		bidder, lot := n%x.bidders, n/x.bidders
		s.Bids = append(s.Bids, bid(bidder, lot, someMost(r, s, lot, x.high)))
	}
	return s
}

// someMille is a Premium or a Fee.
func someMille(r *rand.Rand) int {
	return oneOf(r, 0, 1, 50, 100, 125, 150, 250, r.Intn(api.MaxSaMille+1), api.MaxSaMille)
}

// somePart is a part of some numbers, ascending.
func somePart(r *rand.Rand, of []int) []int {
	return slices.DeleteFunc(slices.Clone(of), func(int) bool { return r.Intn(2) == 0 })
}

// somePrices are prices at which Next is asked, among them those at which steps begin.
func somePrices(r *rand.Rand, s api.SaSale) []int {
	prices := list(0, 1, r.Intn(api.MaxSaPrice+1), r.Intn(300), api.MaxSaPrice-1, api.MaxSaPrice)
	for _, x := range s.Steps {
		for _, p := range list(x.From-1, x.From, x.From+1) {
			if p >= 0 && p <= api.MaxSaPrice {
				prices = append(prices, p)
			}
		}
	}
	return prices
}

// defects are the lots that can be returned, if they were sold.
func defects(s api.SaSale) []int {
	return slices.DeleteFunc(upTo(len(s.Lots)), func(i int) bool { return !s.Lots[i].Defect })
}

// returned are returns of lots, in any order.
func returned(r *rand.Rand, s api.SaSale, lots []int) []api.SaReturn {
	var all []api.SaReturn
	for _, i := range r.Perm(len(lots)) {
		all = append(all, back(lots[i], r.Intn(s.Days+1)))
	}
	return all
}

// badReturns are returns of which one has an error, or more have.
func badReturns(r *rand.Rand, s api.SaSale, lots []int) []api.SaReturn {
	all := returned(r, s, lots)
	for range 1 + r.Intn(2) {
		x := oneOf(r, back(-1, 0), back(len(s.Lots), s.Days), back(len(s.Lots)+7, -1))
		if len(s.Lots) > 0 && r.Intn(4) > 0 {
			x = back(r.Intn(len(s.Lots)), oneOf(r, -1, 0, s.Days, s.Days+1, s.Days+1))
		}
		all = slices.Insert(all, r.Intn(len(all)+1), x)
	}
	return all
}

// someReturns are lists of returns: none, all that can be, some, some with errors.
func someReturns(r *rand.Rand, m model) [][]api.SaReturn {
	good := slices.DeleteFunc(defects(m.SaSale), func(i int) bool { return m.results[0][i] == nobody() })
	return [][]api.SaReturn{nil, returned(r, m.SaSale, good), returned(r, m.SaSale, somePart(r, good)), badReturns(r, m.SaSale, nil), badReturns(r, m.SaSale, somePart(r, good))}
}

// trueOf is a catalogue of some lots that was told of some results, with prices that are wider by so much at most.
func trueOf(r *rand.Rand, results []api.SaResult, lots []int, wide int) []api.SaEntry {
	var l []api.SaEntry
	for _, i := range lots {
		x := unsold(i)
		if p := results[i].Price; results[i] != nobody() {
			x = sold(i, max(0, p-r.Intn(wide+1)), min(api.MaxSaPrice, p+r.Intn(wide+1)))
		}
		l = append(l, x)
	}
	return l
}

// changed is a catalogue of which some entries were changed: a lot was sold, or not, or for another price, perhaps by a penny.
func changed(r *rand.Rand, l []api.SaEntry, high int) []api.SaEntry {
	l = slices.Clone(l)
	for range min(len(l), 1+r.Intn(3)) {
		x := &l[r.Intn(len(l))]
		switch p := x.Price; {
		case !x.Sold:
			lo := r.Intn(high + 1)
			*x = sold(x.Lot, lo, lo+r.Intn(api.MaxSaPrice-lo+1))
		case r.Intn(6) == 0:
			*x = unsold(x.Lot)
		case r.Intn(2) == 0 && p.Hi < api.MaxSaPrice:
			x.Price = span(p.Hi+1, min(api.MaxSaPrice, p.Hi+1+r.Intn(high)))
		case p.Lo > 0:
			x.Price = span(max(0, p.Lo-1-r.Intn(high)), p.Lo-1)
		}
	}
	return l
}

// mixed is a catalogue of which each entry is right with some ring, perhaps another one each time.
func mixed(r *rand.Rand, m model) []api.SaEntry {
	var l []api.SaEntry
	for i := range m.Lots {
		l = append(l, trueOf(r, m.results[r.Intn(len(m.results))], list(i), 0)...)
	}
	return l
}

// someCatalogues are catalogues: true ones, of all lots and of some, changed ones, and such as are right for no ring, perhaps.
func someCatalogues(r *rand.Rand, m model, high int) [][]api.SaEntry {
	all := upTo(len(m.Lots))
	l := [][]api.SaEntry{nil}
	for n := range 4 {
		results := m.results[r.Intn(len(m.results))]
		exact, wider := trueOf(r, results, all, 0), trueOf(r, results, somePart(r, all), 1+r.Intn(max(1, high/6)))
		l = append(l, exact, wider, changed(r, exact, high), mixed(r, m))
		if n == 0 && len(wider) > 0 {
			l = append(l, changed(r, wider, high))
		}
	}
	return l
}

// questioned is a sale with questions about it.
func questioned(r *rand.Rand, s api.SaSale) question {
	high := 1
	for _, b := range s.Bids {
		high = max(high, b.Most)
	}
	m := modelOf(question{SaSale: s})
	return question{s, somePrices(r, s), someReturns(r, m), someCatalogues(r, m, high)}
}

// specialSales are sales at the limits, and in which nothing is sold.
func specialSales() []api.SaSale {
	penny, wide := []api.SaStep{step(0, 1)}, []api.SaStep{step(0, api.MaxSaPrice)}
	late := []api.SaStep{step(0, 3), step(api.MaxSaPrice-1, 1), step(api.MaxSaPrice, 7)}
	most := api.MaxSaPrice
	all := []api.SaSale{
		example(), full(), {Steps: penny}, {Steps: penny, Bidders: named("b", 6)}, {Steps: penny, Sellers: named("s", 4)}, oneLot(penny, 1), oneLot(penny, 1, 0, 0), oneLot(fives(), 10, 9), oneLot(fives(), 10, 10), oneLot(fives(), 10, 9, 9, 9),
		// Ties: the bid that comes first counts.
		oneLot(fives(), 10, 30, 30), oneLot(fives(), 10, 31, 31, 31), oneLot(fives(), 10, 10, 10, 10, 10, 10, 10), oneLot(fives(), 10, 14, 14, 14), oneLot(fives(), 10, 20, 30, 30, 20),
		// The steps change under the prices.
		oneLot([]api.SaStep{step(0, 5), step(50, 10)}, 48, 90, 70), oneLot([]api.SaStep{step(0, 5), step(50, 10)}, 45, 90, 50), oneLot([]api.SaStep{step(0, 5), step(50, 10)}, 45, 90, 49), oneLot([]api.SaStep{step(0, 40), step(10, 3), step(20, 2), step(30, 1)}, 5, 90, 60), oneLot([]api.SaStep{step(0, 2), step(1, 30), step(2, 3), step(9, 50), step(60, 1)}, 1, 90, 70, 80),
		oneLot(penny, 1, most, most), oneLot(penny, 1, most, most-1, 1), oneLot(penny, 1, most, 1), oneLot(penny, most, most, most-1), oneLot(penny, most, most-1), oneLot(wide, 1, most, most), oneLot(wide, most, most, most), oneLot(late, 1, most, most, most-1, most-2), oneLot(late, 2, most, most-1), oneLot(late, 3, most-1, most),
	}
	for _, steps := range [][]api.SaStep{penny, fives(), {step(0, 7), step(20, 1), step(21, 6), step(40, 2)}} {
		for most := range 12 {
			all = append(all, oneLot(steps, 9, 30, 8+3*most, 25, 12), oneLot(steps, 1+most, 5+most, 5+2*most, 11), oneLot(steps, 5, most, most, most), oneLot(steps, 15+most, 20+most, 40, 20+most))
		}
	}
	reversed := full()
	slices.Reverse(reversed.Bids)
	equal := full()
	for i := range equal.Bids {
		equal.Bids[i].Most = 500
	}
	return append(all, reversed, equal)
}

// cases are sales without an error and questions about them, always the same ones.
var cases = sync.OnceValue(func() []question {
	r := seed(12)
	sales := specialSales()
	for i := range 2000 {
		x := someSize(r)
		switch {
		case i%12 == 0:
			x = largest(r)
		case i%3 == 0:
			x = crowded(r)
		}
		sales = append(sales, someSale(r, x))
	}
	var all []question
	for _, s := range sales {
		all = append(all, questioned(r, s))
	}
	return all
})

// answers are what is told of each of the cases, asked once for all tests.
var answers = sync.OnceValue(func() []told {
	return inAll(len(cases()), func(i int) told { return tell(cases()[i]) })
})

// asks goes through all cases, and what is told of each.
func asks(visit func(q question, x told)) {
	for i, q := range cases() {
		visit(q, answers()[i])
	}
}
