package sale_test

import (
	"slices"
	"sort"

	"duodecimo/api"
)

// byOf is how much more is bid at a price: the last step that begins at it or below.
func byOf(s api.SaSale, price int) int {
	for i := len(s.Steps) - 1; i > 0; i-- {
		if s.Steps[i].From <= price {
			return s.Steps[i].By
		}
	}
	return s.Steps[0].By
}

// nextOf is what Next must say of a price from 0 to MaxSaPrice.
func nextOf(s api.SaSale, price int) following {
	return following{price + byOf(s, price), api.OK}
}

// ladder are the prices of a lot, up to the first one that nobody can give.
func ladder(s api.SaSale, lot int) []int {
	prices := list(s.Lots[lot].Reserve)
	for {
		last := prices[len(prices)-1]
		if !slices.ContainsFunc(s.Bids, func(b api.SaBid) bool { return b.Lot == lot && b.Most >= last }) {
			return prices
		}
		prices = append(prices, last+byOf(s, last))
	}
}

// bidding are the bids for a lot that are made with a ring, in their order.
func bidding(s api.SaSale, lot int, ring []int) []api.SaBid {
	var all []api.SaBid
	for i, b := range s.Bids {
		if b.Lot != lot {
			continue
		}
		silent := false
		for k, other := range s.Bids {
			better := other.Most > b.Most || other.Most == b.Most && k < i
			silent = silent || other.Lot == lot && better && slices.Contains(ring, b.Bidder) && slices.Contains(ring, other.Bidder)
		}
		if !silent {
			all = append(all, b)
		}
	}
	return all
}

// giving are the bids of those who give a price, the greatest ones first, of several those that come first.
func giving(bids []api.SaBid, price int) []api.SaBid {
	all := slices.DeleteFunc(slices.Clone(bids), func(b api.SaBid) bool { return b.Most < price })
	slices.SortStableFunc(all, func(a, b api.SaBid) int { return b.Most - a.Most })
	return all
}

// called is what a lot is sold for, and to whom, if its prices are called out, one behind the other, until not more than one gives the price; if nobody does, the one before it counts.
func called(prices []int, bids []api.SaBid) api.SaResult {
	i := sort.Search(len(prices), func(i int) bool { return len(giving(bids, prices[i])) <= 1 })
	if len(giving(bids, prices[i])) == 0 {
		i--
	}
	if i < 0 {
		return nobody()
	}
	return result(giving(bids, prices[i])[0].Bidder, prices[i])
}

// model is a sale, with the prices of all lots, and what is sold with each ring.
type model struct {
	question
	rings   [][]int
	results [][]api.SaResult
}

// modelOf is the model of a question.
func modelOf(q question) model {
	m := model{question: q, rings: ringsOf(q.SaSale)}
	var ladders [][]int
	for i := range q.Lots {
		ladders = append(ladders, ladder(q.SaSale, i))
	}
	for _, ring := range m.rings {
		var results []api.SaResult
		for i := range q.Lots {
			results = append(results, called(ladders[i], bidding(q.SaSale, i, ring)))
		}
		m.results = append(m.results, results)
	}
	return m
}

// partOf is a part of a price: the number of pence that is nearest to it, the greater one of two.
func partOf(price, mille int) int {
	exact := price * mille // a thousand for a penny
	below := exact / 1000
	if above := below + 1; 1000*above-exact <= exact-1000*below {
		return above
	}
	return below
}

// returnErrorOf is the error of the first return with one, with some results.
func (m model) returnErrorOf(results []api.SaResult, returns []api.SaReturn) api.Errno {
	for i, r := range returns {
		switch {
		case r.Lot < 0 || r.Lot >= len(m.Lots):
			return api.ErrNone
		case slices.ContainsFunc(returns[:i], func(before api.SaReturn) bool { return before.Lot == r.Lot }):
			return api.ErrTwice
		case r.Day < 0 || r.Day > m.Days:
			return api.ErrRange
		case !m.Lots[r.Lot].Defect || results[r.Lot] == nobody():
			return api.ErrDown
		}
	}
	return api.OK
}

// account is what Account must say of a ring, by its number.
func (m model) account(ring int, returns []api.SaReturn) accounted {
	results := m.results[ring]
	if e := m.returnErrorOf(results, returns); e != api.OK {
		return accounted{e: e}
	}
	var x accounted
	for b := range m.Bidders {
		pays := 0
		for i, r := range results {
			if r.Bidder == b && !slices.ContainsFunc(returns, func(r api.SaReturn) bool { return r.Lot == i }) {
				pays += r.Price + partOf(r.Price, m.Premium)
			}
		}
		x.bidders = append(x.bidders, pays)
	}
	for n := range m.Sellers {
		gets := 0
		for i, r := range results {
			if r != nobody() && m.Lots[i].Seller == n && !slices.ContainsFunc(returns, func(r api.SaReturn) bool { return r.Lot == i }) {
				gets += r.Price - partOf(r.Price, m.Fee)
			}
		}
		x.sellers = append(x.sellers, gets)
	}
	x.house = sum(x.bidders) - sum(x.sellers)
	return x
}

// share is what Share must say of a ring, by its number: each member in turn gets as much of what is left as all behind it get at most.
func (m model) share(ring int) numbered {
	saved := 0
	for i, r := range m.results[ring] {
		if slices.Contains(m.rings[ring], r.Bidder) {
			saved += m.results[0][i].Price - r.Price
		}
	}
	var x numbered
	for many := len(m.rings[ring]); many > 0; many-- {
		share := 0
		for share*many < saved {
			share += (saved - share*many + many - 1) / many
		}
		x.numbers = append(x.numbers, share)
		saved -= share
	}
	return x
}

// right reports whether an entry is right with some results.
func right(x api.SaEntry, results []api.SaResult) bool {
	r := results[x.Lot]
	if r == nobody() {
		return !x.Sold
	}
	return x.Sold && r.Price >= x.Price.Lo && r.Price <= x.Price.Hi
}

// suspects are all rings with which all entries are right, in their order.
func (m model) suspects(l []api.SaEntry) [][]int {
	var all [][]int
	for i, ring := range m.rings {
		if !slices.ContainsFunc(l, func(x api.SaEntry) bool { return !right(x, m.results[i]) }) {
			all = append(all, ring)
		}
	}
	return all
}

// members is what Members must say.
func (m model) members(l []api.SaEntry) known {
	suspects := m.suspects(l)
	if len(suspects) == 0 {
		return known{e: api.ErrZero}
	}
	var x known
	for b := range m.Bidders {
		in := 0
		for _, ring := range suspects {
			if slices.Contains(ring, b) {
				in++
			}
		}
		if in == len(suspects) {
			x.must = append(x.must, b)
		}
		if in > 0 {
			x.may = append(x.may, b)
		}
	}
	return x
}

// wrong is what Wrong must say: of all lists of entries the first one without which there is a ring, the shorter ones first.
func (m model) wrong(l []api.SaEntry) numbered {
	for _, places := range shortFirst(upTo(len(l))) {
		if len(m.suspects(left(l, places))) > 0 {
			return numbered{places, api.OK}
		}
	}
	return numbered{e: api.ErrDown} // without all entries any ring is right
}

// modelled is what must be told of a question.
func modelled(q question) told {
	m := modelOf(q)
	var x told
	for _, p := range q.prices {
		x.next = append(x.next, nextOf(q.SaSale, p))
	}
	for i := range m.rings {
		x.sell = append(x.sell, bought{m.results[i], api.OK})
		x.account = append(x.account, nil)
		for _, r := range q.returns {
			x.account[i] = append(x.account[i], m.account(i, r))
		}
		x.share = append(x.share, m.share(i))
	}
	for _, l := range q.catalogues {
		suspects := m.suspects(l)
		if len(suspects) == 0 {
			x.rings = append(x.rings, suspected{e: api.ErrZero})
		} else {
			x.rings = append(x.rings, suspected{suspects, api.OK})
		}
		x.members = append(x.members, m.members(l))
		x.wrong = append(x.wrong, m.wrong(l))
	}
	return x
}
