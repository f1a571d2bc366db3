package sale_test

import (
	"slices"
	"testing"

	"duodecimo/api"
)

// P12.2 to P12.6: all that is told of each case is so by the prices of each lot written out, with all rings.
func TestTold(t *testing.T) {
	t.Parallel()
	models := inAll(len(cases()), func(i int) told { return modelled(cases()[i]) })
	for i, q := range cases() {
		if x, y := answers()[i], models[i]; differ(x, y) != "" {
			t.Errorf("%d: %v: %s: %v, not %v", i, q, differ(x, y), x, y)
		}
	}
}

// kinds counts things of each kind.
type kinds map[string]int

// count counts a thing if it is of a kind.
func (k kinds) count(kind string, isSo bool) {
	if isSo {
		k[kind]++
	}
}

// countSale counts what is so of a sale.
func (k kinds) countSale(q question) {
	k.count("largest", len(q.Steps) == api.MaxSaSteps && len(q.Bidders) == api.MaxSaBidders && len(q.Lots) == api.MaxSaLots && len(q.Bids) == api.MaxSaBids)
	k.count("no bidder", len(q.Bidders) == 0)
	k.count("just one bidder", len(q.Bidders) == 1)
	k.count("no lot", len(q.Lots) == 0)
	k.count("bidders, but no bid", len(q.Bids) == 0 && len(q.Bidders) > 1)
	for _, p := range q.prices {
		at := slices.IndexFunc(q.Steps, func(x api.SaStep) bool { return x.From == p })
		k.count("next at the From of a later step", at > 0)
		k.count("next just below a step", slices.ContainsFunc(q.Steps, func(x api.SaStep) bool { return x.From == p+1 }))
		k.count("next beyond the greatest price", nextOf(q.SaSale, p).price > api.MaxSaPrice)
	}
}

// countLot counts what is so of a lot with a ring, by what is sold without one, and with this one.
func (k kinds) countLot(q question, lot int, ring []int, alone, r api.SaResult) {
	reserve, bids := q.Lots[lot].Reserve, bidding(q.SaSale, lot, ring)
	if r == nobody() {
		k.count("nobody bids", len(bids) == 0)
		k.count("not sold, for a penny", slices.ContainsFunc(bids, func(b api.SaBid) bool { return b.Most == reserve-1 }))
		k.count("not sold, though several bid", len(bids) > 1)
		return
	}
	most, others, tied := 0, 0, false
	for _, b := range bids {
		if b.Bidder == r.Bidder {
			most = b.Most
		} else {
			others = max(others, b.Most)
		}
	}
	for _, b := range bids {
		tied = tied || b.Most == most && b.Bidder < r.Bidder
	}
	k.count("sold for the reserve, to the only one", r.Price == reserve && others == 0)
	k.count("sold for the reserve, others below it", r.Price == reserve && others > 0 && others < reserve)
	k.count("sold for just what the buyer gives, and others less", r.Price == most && others < most && others >= reserve)
	k.count("sold for a penny more than another one gives", r.Price == others+1 && others >= reserve)
	k.count("another one gives just the price before", others >= reserve && others < r.Price && others+byOf(q.SaSale, others) == r.Price)
	k.count("sold for no more than another one gives", r.Price <= others && others < most)
	k.count("sold for less than another one gives", r.Price < others && others < most)
	k.count("two give as much", others == most && r.Price < most)
	k.count("the first one of two is not the first bidder", tied)
	k.count("several steps up to the price", byOf(q.SaSale, reserve) != byOf(q.SaSale, r.Price))
	k.count("sold at the From of a later step", slices.ContainsFunc(q.Steps[1:], func(x api.SaStep) bool { return x.From == r.Price }))
	k.count("a step begins on the way to the price", slices.ContainsFunc(q.Steps[1:], func(x api.SaStep) bool { return x.From > reserve && x.From < r.Price }))
	k.count("a step is passed that no price is in", passed(q.SaSale, lot, r.Price))
	if len(ring) == 0 {
		return
	}
	in := slices.Contains(ring, r.Bidder)
	k.count("the ring has it for less", in && r.Price < alone.Price)
	k.count("the ring has it for as much", in && r.Price == alone.Price && alone.Price > reserve)
	k.count("the ring has it, and nobody else bids", in && len(bids) == 1 && r.Price < alone.Price)
	k.count("the ring does not have it", !in && len(bids) > 1)
	k.count("two of the ring give as much", in && slices.ContainsFunc(q.Bids, func(b api.SaBid) bool {
		return b.Lot == lot && b.Most == most && b.Bidder != r.Bidder && slices.Contains(ring, b.Bidder)
	}))
}

// passed reports whether there is a step between a reserve and a price that is passed without a price in it.
func passed(s api.SaSale, lot, price int) bool {
	prices := ladder(s, lot)
	for i, x := range s.Steps[1:] {
		if i+2 >= len(s.Steps) || x.From <= prices[0] || s.Steps[i+2].From >= price {
			continue
		}
		if !slices.ContainsFunc(prices, func(p int) bool { return p >= x.From && p < s.Steps[i+2].From }) {
			return true
		}
	}
	return false
}

// countAccounts counts what is so of accounts and shares.
func (k kinds) countAccounts(q question, x told) {
	for i, ring := range ringsOf(q.SaSale) {
		results := x.sell[i].results
		for _, r := range results {
			for _, mille := range list(q.Premium, q.Fee) {
				rest := r.Price * mille % 1000
				k.count("half a penny", rest == 500)
				k.count("more than half a penny", rest > 500)
				k.count("less than half a penny", rest > 0 && rest < 500)
			}
		}
		for n, a := range x.account[i] {
			k.count("several lots returned", a.e == api.OK && len(q.returns[n]) > 1)
			k.count("one of several lots returned", a.e == api.OK && len(q.returns[n]) == 1 && len(results) > 2)
			k.count("a return on the last day", a.e == api.OK && slices.ContainsFunc(q.returns[n], func(r api.SaReturn) bool { return r.Day == q.Days && r.Day > 0 }))
			k.count("no such lot", a.e == api.ErrNone)
			k.count("returned twice", a.e == api.ErrTwice)
			k.count("no such day", a.e == api.ErrRange)
			k.count("cannot be returned", a.e == api.ErrDown)
			k.count("a defect that was not sold", a.e == api.ErrDown && len(q.returns[n]) == 1 && q.Lots[q.returns[n][0].Lot].Defect)
			k.count("a seller gets nothing", slices.Contains(a.sellers, 0) && sum(a.sellers) > 0)
			k.count("a bidder pays nothing", slices.Contains(a.bidders, 0) && sum(a.bidders) > 0)
		}
		s := x.share[i].numbers
		k.count("nothing saved", len(s) > 0 && sum(s) == 0)
		k.count("shares all the same", len(s) > 0 && s[0] > 0 && s[0] == s[len(s)-1])
		k.count("the first one has a penny more", len(s) > 2 && s[0] > s[1])
		k.count("all but the last one have a penny more", len(s) > 2 && s[len(s)-2] > s[len(s)-1])
		k.count("a ring of all", len(ring) == len(q.Bidders) && len(ring) > 2 && sum(s) > 0)
	}
}

// countCatalogues counts what is so of catalogues.
func (k kinds) countCatalogues(q question, x told) {
	all := ringsOf(q.SaSale)
	for i, l := range q.catalogues {
		some, m, wrong := x.rings[i].rings, x.members[i], x.wrong[i].numbers
		k.count("no entry", len(l) == 0 && len(q.Lots) > 0)
		k.count("not all lots", len(l) > 1 && len(l) < len(q.Lots))
		k.count("a lot that was not sold, and is not", x.rings[i].e == api.OK && slices.ContainsFunc(l, func(x api.SaEntry) bool { return !x.Sold }))
		k.count("all rings", len(some) == len(all) && len(all) > 1 && len(l) > 0)
		k.count("just one ring", len(some) == 1 && len(all) > 2)
		k.count("just one ring, of some", len(some) == 1 && len(some[0]) > 1 && len(some[0]) < len(q.Bidders))
		k.count("some rings", len(some) > 1 && len(some) < len(all))
		k.count("rings, but not none", len(some) > 1 && len(some[0]) > 0)
		k.count("longer rings before lesser ones", len(some) > 2 && slices.Compare(some[len(some)-2], some[len(some)-1]) > 0)
		k.count("no ring", x.rings[i].e == api.ErrZero)
		k.count("some must", len(m.must) > 0 && len(m.must) < len(m.may))
		k.count("none may", m.e == api.OK && len(m.may) == 0 && len(q.Bidders) > 1)
		k.count("not all may", len(m.may) > 0 && len(m.may) < len(q.Bidders))
		k.count("one wrong", len(wrong) == 1 && len(l) > 1)
		k.count("not the first one wrong", len(wrong) == 1 && wrong[0] > 0)
		k.count("several wrong, not all", len(wrong) > 1 && len(wrong) < len(l))
		k.count("all wrong", len(wrong) == len(l) && len(l) > 1)
		k.count("others could be wrong", slices.ContainsFunc(all, func(ring []int) bool {
			other := wrongWith(q, x, l, ring)
			return len(other) == len(wrong) && !slices.Equal(other, wrong)
		}))
	}
}

// wrongWith are the entries that are not right with a ring, by what was sold.
func wrongWith(q question, x told, l []api.SaEntry, ring []int) []int {
	at := slices.IndexFunc(ringsOf(q.SaSale), func(r []int) bool { return slices.Equal(r, ring) })
	return slices.DeleteFunc(upTo(len(l)), func(i int) bool { return right(l[i], x.sell[at].results) })
}

// Among the cases are enough of each kind.
func TestCases(t *testing.T) {
	t.Parallel()
	k := kinds{}
	for i, q := range cases() {
		x := answers()[i]
		k.countSale(q)
		k.countAccounts(q, x)
		k.countCatalogues(q, x)
		for n, ring := range ringsOf(q.SaSale) {
			for lot := range q.Lots {
				k.countLot(q, lot, ring, x.sell[0].results[lot], x.sell[n].results[lot])
			}
		}
	}
	for _, kind := range []string{
		"largest", "no bidder", "just one bidder", "no lot", "bidders, but no bid", "next at the From of a later step", "next just below a step", "next beyond the greatest price",
		"nobody bids", "not sold, for a penny", "not sold, though several bid", "sold for the reserve, to the only one", "sold for the reserve, others below it", "sold for just what the buyer gives, and others less", "sold for a penny more than another one gives", "another one gives just the price before",
		"sold for no more than another one gives", "sold for less than another one gives", "two give as much", "the first one of two is not the first bidder", "several steps up to the price", "sold at the From of a later step", "a step begins on the way to the price", "a step is passed that no price is in",
		"the ring has it for less", "the ring has it for as much", "the ring has it, and nobody else bids", "the ring does not have it", "two of the ring give as much",
		"half a penny", "more than half a penny", "less than half a penny", "several lots returned", "one of several lots returned", "a return on the last day", "no such lot", "returned twice", "no such day", "cannot be returned", "a defect that was not sold", "a seller gets nothing", "a bidder pays nothing",
		"nothing saved", "shares all the same", "the first one has a penny more", "all but the last one have a penny more", "a ring of all",
		"no entry", "not all lots", "a lot that was not sold, and is not", "all rings", "just one ring", "just one ring, of some", "some rings", "rings, but not none", "longer rings before lesser ones", "no ring", "some must", "none may", "not all may",
		"one wrong", "not the first one wrong", "several wrong, not all", "all wrong", "others could be wrong",
	} {
		if k[kind] < 20 {
			t.Errorf("%s: %d", kind, k[kind])
		}
	}
	t.Log(k)
}

// The chapter's examples, one by one.
func TestExamples(t *testing.T) {
	s := example()
	expect(t, "Next of 45", next(s, 45), following{50, api.OK})
	expect(t, "Next of 50", next(s, 50), following{60, api.OK})
	expect(t, "Sell", sell(s, nil), bought{[]api.SaResult{result(0, 60), result(1, 73), nobody()}, api.OK})
	for _, x := range []struct {
		ring       []int
		lot, price int
	}{{list(0, 2), bible, 45}, {list(0, 1, 2), bible, 20}, {list(1, 3), atlas, 48}} {
		b := sell(s, x.ring)
		if b.e != api.OK || b.results[x.lot].Price != x.price {
			t.Errorf("Sell of %v = %v", x.ring, b)
		}
	}
	expect(t, "Account", account(s, nil, nil), accounted{list(66, 80, 0, 0), list(113), 33, api.OK})
	expect(t, "Account, the bible returned", account(s, list(1, 3), []api.SaReturn{back(bible, 14)}), accounted{list(0, 53, 0, 0), list(41), 12, api.OK})
	expect(t, "Account, the bible returned late", account(s, list(1, 3), []api.SaReturn{back(bible, 15)}), accounted{e: api.ErrRange})
	expect(t, "Share of two", share(s, list(0, 2)), numbered{list(8, 7), api.OK})
	expect(t, "Share of three", share(s, list(0, 1, 2)), numbered{list(14, 13, 13), api.OK})
	expect(t, "Rings of one lot", rings(s, entries(sold(bible, 40, 50))), suspected{rows(list(0, 2), list(0, 2, 3)), api.OK})
	expect(t, "Rings of two lots", rings(s, entries(sold(bible, 60, 60), sold(atlas, 48, 48))), suspected{rows(list(1, 3), list(0, 1, 3), list(1, 2, 3)), api.OK})
	expect(t, "Members", members(s, entries(sold(bible, 20, 50))), known{list(0, 2), list(0, 1, 2, 3), api.OK})
	expect(t, "Wrong", wrong(s, entries(sold(bible, 45, 45), sold(atlas, 48, 48), sold(fan, 30, 30))), numbered{list(0, 2), api.OK})
}

// P12.2: the last step whose From is at most the price counts; the price behind the greatest one can be told, too.
func TestNext(t *testing.T) {
	all := but(func(s *api.SaSale) {
		s.Steps = []api.SaStep{step(0, 3), step(1, 100000), step(50, 2), step(51, 7), step(100000, 1)}
	})
	for i, x := range []struct {
		s           api.SaSale
		price, want int
	}{
		{example(), 0, 5}, {example(), 1, 6}, {example(), 49, 54}, {example(), 50, 60}, {example(), 51, 61}, {example(), 100000, 100010}, {oneLot(fives(), 1), 0, 5}, {oneLot(fives(), 1), 100000, 100005}, {api.SaSale{Steps: []api.SaStep{step(0, 1)}}, 99999, 100000},
		{all, 0, 3}, {all, 1, 100001}, {all, 49, 100049}, {all, 50, 52}, {all, 51, 58}, {all, 52, 59}, {all, 99999, 100006}, {all, 100000, 100001},
	} {
		expect(t, "Next "+string(rune('a'+i)), next(x.s, x.price), following{x.want, api.OK})
	}
}

// P12.2: the buyer, and the price: above all others, but not above what the buyer gives; by steps from the reserve on, not from what others give.
func TestSell(t *testing.T) {
	steps := []api.SaStep{step(0, 5), step(50, 10)}
	short := []api.SaStep{step(0, 40), step(10, 3), step(20, 2), step(30, 1)} // the second and the third one are passed at once
	for i, x := range []struct {
		s    api.SaSale
		ring []int
		want api.SaResult
	}{
		{oneLot(fives(), 10), nil, nobody()}, {oneLot(fives(), 10, 0, 0), nil, nobody()}, {oneLot(fives(), 10, 9), nil, nobody()}, {oneLot(fives(), 10, 9, 9), list(0, 1), nobody()}, {oneLot(fives(), 10, 10), nil, result(0, 10)}, {oneLot(fives(), 10, 0, 99), nil, result(1, 10)}, {oneLot(fives(), 10, 9, 99), nil, result(1, 10)},
		// The other one gives a price of the lot, or a penny less or more.
		{oneLot(fives(), 10, 10, 99), nil, result(1, 15)}, {oneLot(fives(), 10, 14, 99), nil, result(1, 15)}, {oneLot(fives(), 10, 15, 99), nil, result(1, 20)}, {oneLot(fives(), 10, 16, 99), nil, result(1, 20)}, {oneLot(fives(), 12, 15, 99), nil, result(1, 17)}, {oneLot(fives(), 12, 17, 99), nil, result(1, 22)},
		// The buyer cannot give the price that is above the other one.
		{oneLot(fives(), 10, 15, 20), nil, result(1, 20)}, {oneLot(fives(), 10, 15, 19), nil, result(1, 15)}, {oneLot(fives(), 10, 17, 19), nil, result(1, 15)}, {oneLot(fives(), 10, 19, 19), nil, result(0, 15)}, {oneLot(fives(), 10, 20, 20), nil, result(0, 20)}, {oneLot(fives(), 10, 10, 11), nil, result(1, 10)}, {oneLot(fives(), 10, 14, 14), nil, result(0, 10)}, {oneLot(fives(), 10, 13, 14, 12, 11), nil, result(1, 10)},
		{oneLot(steps, 48, 90, 70), nil, result(0, 73)}, {oneLot(steps, 48, 90, 73), nil, result(0, 83)}, {oneLot(steps, 48, 90, 83), nil, result(0, 83)}, {oneLot(steps, 45, 90, 49), nil, result(0, 50)}, {oneLot(steps, 45, 90, 50), nil, result(0, 60)}, {oneLot(steps, 45, 59, 50), nil, result(0, 50)}, {oneLot(steps, 50, 59, 50), nil, result(0, 50)}, {oneLot(steps, 51, 90, 51), nil, result(0, 61)},
		{oneLot(short, 5, 90, 44), nil, result(0, 45)}, {oneLot(short, 5, 90, 45), nil, result(0, 46)}, {oneLot(short, 5, 90, 60), nil, result(0, 61)}, {oneLot(short, 5, 44, 43), nil, result(0, 5)}, {oneLot(short, 10, 90, 20), nil, result(0, 22)}, {oneLot(short, 10, 90, 18), nil, result(0, 19)}, {oneLot(short, 10, 90, 19), nil, result(0, 22)}, {oneLot(short, 10, 90, 28), nil, result(0, 30)},
		// The bid that comes first counts, whoever makes it.
		{oneLot(fives(), 10, 30, 30, 30), nil, result(0, 30)}, {turned(oneLot(fives(), 10, 30, 30, 30)), nil, result(2, 30)}, {turned(oneLot(fives(), 10, 31, 30, 31)), nil, result(2, 30)}, {turned(oneLot(fives(), 10, 30, 30, 10)), nil, result(1, 30)},
		// Of a ring just one bids: the best one, also if others are better.
		{oneLot(fives(), 10, 30, 40, 50), list(1, 2), result(2, 35)}, {oneLot(fives(), 10, 30, 40, 50), list(0, 2), result(2, 45)}, {oneLot(fives(), 10, 30, 40, 50), list(0, 1), result(2, 45)}, {oneLot(fives(), 10, 30, 40, 50), list(0, 1, 2), result(2, 10)}, {oneLot(fives(), 10, 40, 40, 40), list(1, 2), result(0, 40)}, {oneLot(fives(), 10, 40, 40, 40), list(0, 2), result(0, 40)}, {oneLot(fives(), 10, 40, 40, 40), list(0, 1, 2), result(0, 10)},
		{turned(oneLot(fives(), 10, 40, 40, 40)), list(0, 1), result(2, 40)}, {turned(oneLot(fives(), 10, 40, 40, 39)), list(0, 1), result(1, 40)}, {turned(oneLot(fives(), 10, 40, 40, 34)), list(0, 1), result(1, 35)}, {oneLot(fives(), 10, 30, 40, 0), list(1, 2), result(1, 35)}, {oneLot(fives(), 10, 0, 0, 40), list(0, 1), result(2, 10)}, {oneLot(fives(), 10, 0, 0, 40), list(0, 1, 2), result(2, 10)}, {oneLot(fives(), 10, 9, 9, 40), list(0, 2), result(2, 10)},
		{oneLot([]api.SaStep{step(0, 1)}, 1, 100000, 100000), nil, result(0, 100000)}, {oneLot([]api.SaStep{step(0, 1)}, 1, 99998, 100000), nil, result(1, 99999)}, {oneLot([]api.SaStep{step(0, 100000)}, 1, 99998, 100000), nil, result(1, 1)}, {oneLot([]api.SaStep{step(0, 3)}, 1, 99998, 100000), nil, result(1, 100000)}, {oneLot([]api.SaStep{step(0, 3)}, 2, 99998, 100000), nil, result(1, 99998)}, {oneLot(fives(), 100000, 100000, 99999), nil, result(0, 100000)},
	} {
		expect(t, "Sell "+string(rune('A'+i)), sell(x.s, x.ring), bought{[]api.SaResult{x.want}, api.OK})
	}
	expect(t, "Sell of no lots", sell(api.SaSale{Steps: fives()}, nil), bought{})
}

// turned is a sale with its bids the other way round.
func turned(s api.SaSale) api.SaSale {
	s = cloned(s)
	slices.Reverse(s.Bids)
	return s
}

// at is a sale of so many lots, sold for these prices, with a Premium and a Fee.
func at(premium, fee int, prices ...int) api.SaSale {
	s := api.SaSale{Steps: fives(), Premium: premium, Fee: fee, Days: 9, Bidders: named("b", 2), Sellers: named("s", 2)}
	for i, p := range prices {
		s.Lots = append(s.Lots, defect("l"+string(rune('a'+i)), i%2, p))
		s.Bids = append(s.Bids, bid(1-i/2%2, i, p))
	}
	return s
}

// P12.3: parts of each price are rounded, a half up, and not those of their sum; returned lots count for nobody.
func TestAccount(t *testing.T) {
	for i, x := range []struct {
		s       api.SaSale
		returns []api.SaReturn
		want    accounted
	}{
		{api.SaSale{Steps: fives()}, nil, accounted{}}, {oneLot(fives(), 10, 9, 0), nil, accounted{list(0, 0), list(0), 0, api.OK}}, {at(0, 0, 7), nil, accounted{list(0, 7), list(7, 0), 0, api.OK}}, {at(500, 500, 7), nil, accounted{list(0, 11), list(3, 0), 8, api.OK}}, {at(500, 500, 1), nil, accounted{list(0, 2), list(0, 0), 2, api.OK}},
		{at(499, 499, 1), nil, accounted{list(0, 1), list(1, 0), 0, api.OK}}, {at(100, 100, 4), nil, accounted{list(0, 4), list(4, 0), 0, api.OK}}, {at(100, 100, 5), nil, accounted{list(0, 6), list(4, 0), 2, api.OK}}, {at(100, 100, 14), nil, accounted{list(0, 15), list(13, 0), 2, api.OK}}, {at(100, 100, 15), nil, accounted{list(0, 17), list(13, 0), 4, api.OK}}, {at(125, 0, 4), nil, accounted{list(0, 5), list(4, 0), 1, api.OK}}, {at(0, 125, 12), nil, accounted{list(0, 12), list(10, 0), 2, api.OK}}, {at(1, 1, 499), nil, accounted{list(0, 499), list(499, 0), 0, api.OK}}, {at(1, 1, 500), nil, accounted{list(0, 501), list(499, 0), 2, api.OK}}, {at(500, 500, 100000), nil, accounted{list(0, 150000), list(50000, 0), 100000, api.OK}},
		// Each price for itself: twice a half is two pence, twice less is none.
		{at(100, 0, 5, 5), nil, accounted{list(0, 12), list(5, 5), 2, api.OK}}, {at(100, 0, 4, 4), nil, accounted{list(0, 8), list(4, 4), 0, api.OK}}, {at(0, 100, 5, 1, 5), nil, accounted{list(5, 6), list(8, 1), 2, api.OK}}, {at(0, 100, 4, 1, 4), nil, accounted{list(4, 5), list(8, 1), 0, api.OK}},
		{at(500, 100, 10, 20, 40), nil, accounted{list(60, 45), list(45, 18), 42, api.OK}}, {at(500, 100, 10, 20, 40), []api.SaReturn{back(0, 0)}, accounted{list(60, 30), list(36, 18), 36, api.OK}}, {at(500, 100, 10, 20, 40), []api.SaReturn{back(2, 9), back(1, 0)}, accounted{list(0, 15), list(9, 0), 6, api.OK}}, {at(500, 100, 10, 20, 40), []api.SaReturn{back(2, 9), back(0, 9), back(1, 5)}, accounted{list(0, 0), list(0, 0), 0, api.OK}},
	} {
		expect(t, "Account "+string(rune('a'+i)), account(x.s, nil, x.returns), x.want)
	}
}

// P12.4: what is saved of all lots that members buy, as equally as can be; the first ones have more; none, without a ring.
func TestShare(t *testing.T) {
	two := oneLot(fives(), 10, 30, 40, 50, 20)
	two.Lots = append(two.Lots, lot("m", 0, 7))
	two.Bids = append(two.Bids, bid(3, 1, 28), bid(0, 1, 14))
	for i, x := range []struct {
		s          api.SaSale
		ring, want []int
	}{
		{example(), nil, nil}, {api.SaSale{Steps: fives()}, nil, nil}, {two, list(0, 1), list(0, 0)}, {two, list(1, 2), list(5, 5)}, {two, list(0, 2), list(0, 0)}, {two, list(0, 1, 2), list(7, 7, 6)}, {two, list(0, 3), list(5, 5)}, {two, list(0, 1, 3), list(4, 3, 3)}, {two, list(0, 1, 2, 3), list(12, 11, 11, 11)}, {two, list(2, 3), list(0, 0)}, {two, list(1, 2, 3), list(4, 3, 3)},
		{oneLot(fives(), 9, 0, 8), list(0, 1), list(0, 0)}, {oneLot([]api.SaStep{step(0, 1)}, 10, 20, 10), list(0, 1), list(1, 0)}, {oneLot([]api.SaStep{step(0, 1)}, 10, 20, 10, 0, 0, 9), list(0, 1, 2, 3, 4), list(1, 0, 0, 0, 0)}, {oneLot([]api.SaStep{step(0, 1)}, 10, 20, 13, 0, 0, 9), list(0, 1, 2, 3, 4), list(1, 1, 1, 1, 0)}, {oneLot([]api.SaStep{step(0, 1)}, 10, 20, 13, 0, 0, 9), list(0, 1, 4), list(2, 1, 1)},
	} {
		expect(t, "Share "+string(rune('a'+i)), share(x.s, x.ring), numbered{x.want, api.OK})
	}
}

// P12.5, P12.6: rings, their members and wrong entries of some catalogues.
func TestCatalogues(t *testing.T) {
	s, lone := example(), oneLot(fives(), 10, 30)
	all := ringsOf(s)
	with := func(some ...int) [][]int { // the rings that have all of some
		return slices.DeleteFunc(slices.Clone(all), func(ring []int) bool { return len(without(some, ring)) > 0 })
	}
	both := slices.DeleteFunc(with(0, 2), func(ring []int) bool { return slices.Contains(ring, 1) })
	none := rows()
	for i, x := range []struct {
		s         api.SaSale
		l         []api.SaEntry
		rings     [][]int
		must, may []int
		wrong     []int
	}{
		{s, nil, all, nil, upTo(4), nil}, {s, entries(unsold(fan)), all, nil, upTo(4), nil}, {s, entries(sold(atlas, 0, 100000)), all, nil, upTo(4), nil}, {s, entries(unsold(atlas)), none, nil, nil, list(0)}, {s, entries(sold(fan, 0, 100000)), none, nil, nil, list(0)}, {s, entries(sold(bible, 20, 60)), all, nil, upTo(4), nil}, {s, entries(sold(bible, 61, 61)), none, nil, nil, list(0)}, {s, entries(sold(bible, 0, 19)), none, nil, nil, list(0)},
		{s, entries(sold(bible, 20, 20)), with(0, 1, 2), list(0, 1, 2), upTo(4), nil}, {s, entries(sold(bible, 19, 44)), with(0, 1, 2), list(0, 1, 2), upTo(4), nil}, {s, entries(sold(bible, 21, 45)), both, list(0, 2), list(0, 2, 3), nil}, {s, entries(sold(bible, 45, 45)), both, list(0, 2), list(0, 2, 3), nil}, {s, entries(sold(bible, 46, 59)), none, nil, nil, list(0)}, {s, entries(sold(atlas, 48, 72)), with(1, 3), list(1, 3), upTo(4), nil},
		{s, entries(sold(bible, 20, 20), sold(atlas, 48, 48)), rows(upTo(4)), upTo(4), upTo(4), nil}, {s, entries(sold(bible, 45, 45), sold(atlas, 48, 48)), none, nil, nil, list(0)}, {s, entries(sold(bible, 45, 45), sold(atlas, 49, 72)), none, nil, nil, list(1)}, {s, entries(sold(bible, 45, 45), sold(atlas, 73, 73), unsold(fan)), both, list(0, 2), list(0, 2, 3), nil}, {s, entries(unsold(bible), unsold(atlas), sold(fan, 30, 30)), none, nil, nil, upTo(3)}, {s, entries(unsold(bible), sold(atlas, 73, 73), sold(fan, 0, 30)), none, nil, nil, list(0, 2)},
		{lone, nil, rows(nil), nil, nil, nil}, {lone, entries(sold(0, 10, 10)), rows(nil), nil, nil, nil}, {lone, entries(sold(0, 11, 99)), none, nil, nil, list(0)}, {lone, entries(sold(0, 0, 0)), none, nil, nil, list(0)}, {lone, entries(unsold(0)), none, nil, nil, list(0)}, {api.SaSale{Steps: fives()}, nil, rows(nil), nil, nil, nil},
		{oneLot(fives(), 10, 9, 9), entries(sold(0, 0, 0)), none, nil, nil, list(0)}, {oneLot(fives(), 10, 9, 9), entries(unsold(0)), rows(nil, list(0, 1)), nil, list(0, 1), nil}, {oneLot(fives(), 10, 19, 16), entries(sold(0, 10, 10)), rows(list(0, 1)), list(0, 1), list(0, 1), nil},
	} {
		e := api.OK
		if len(x.rings) == 0 {
			e = api.ErrZero
		}
		expect(t, "Rings "+string(rune('a'+i)), rings(x.s, x.l), suspected{x.rings, e})
		expect(t, "Members "+string(rune('a'+i)), members(x.s, x.l), known{x.must, x.may, e})
		expect(t, "Wrong "+string(rune('a'+i)), wrong(x.s, x.l), numbered{x.wrong, api.OK})
	}
}
