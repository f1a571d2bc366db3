package sale

import (
	"duodecimo/api"
	"duodecimo/check"
	"duodecimo/pick"
)

// returnError returns a function that is given one return after the other, and returns the error of each, with a ring.
func (v sale) returnError(ring pick.Set) func(int, api.SaReturn) api.Errno {
	again := check.Again[int]()
	return func(_ int, r api.SaReturn) api.Errno {
		switch {
		case !check.Within(0, len(v.Lots)-1, r.Lot):
			return api.ErrNone
		case again(r.Lot):
			return api.ErrTwice
		case !check.Within(0, v.Days, r.Day):
			return api.ErrRange
		case !v.Lots[r.Lot].Defect || v.results(ring)[r.Lot] == nobody():
			return api.ErrDown
		}
		return api.OK
	}
}

// perMille is of how many parts of a price a Premium or a Fee is one.
const perMille = 1000

// part returns a part of a price, rounded to the nearest penny, a half up.
func part(price, mille int) int { return (price*mille + perMille/2) / perMille }

// account returns what each bidder pays, each seller gets, and the house keeps, with a ring, of all lots but those that were returned.
func (v sale) account(ring pick.Set, returns []api.SaReturn) (bidders, sellers []int, house int) {
	var returned pick.Set
	for _, r := range returns {
		returned |= pick.One(r.Lot)
	}
	bidders, sellers = make([]int, len(v.Bidders)), make([]int, len(v.Sellers))
	for lot, r := range v.results(ring) {
		if r == nobody() || returned.Has(lot) {
			continue
		}
		pays, gets := r.Price+part(r.Price, v.Premium), r.Price-part(r.Price, v.Fee)
		bidders[r.Bidder] += pays
		sellers[v.Lots[lot].Seller] += gets
		house += pays - gets
	}
	return bidders, sellers, house
}

// saved returns what a ring saves of all lots that its members buy.
func (v sale) saved(ring pick.Set) int {
	saved := 0
	without := v.results(0)
	for lot, r := range v.results(ring) {
		if r != nobody() && ring.Has(r.Bidder) {
			saved += without[lot].Price - r.Price
		}
	}
	return saved
}

// shares returns so many shares of a sum, as nearly equal as can be, the greater ones first.
func shares(sum, many int) []int {
	var shares []int
	for i := range many {
		share := sum / many
		if i < sum%many {
			share++
		}
		shares = append(shares, share)
	}
	return shares
}
