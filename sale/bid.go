package sale

import (
	"math"

	"duodecimo/api"
	"duodecimo/pick"
)

// offer is the most that a bidder gives for a lot (0, if there is no bid), and which one of all bids this is.
type offer struct{ most, at int }

// ahead reports whether an offer counts more than another one: as more is given, or as much, and first.
func (o offer) ahead(other offer) bool {
	if o.most != other.most {
		return o.most > other.most
	}
	return o.at < other.at
}

// offers are those of all bidders for a lot.
type offers [api.MaxSaBidders]offer

// best returns the bidder of some who is ahead of all others of them, and what this one gives at most; nobody and 0, if none of them bids.
func (o offers) best(some pick.Set) (bidder, most int) {
	bidder = api.SaNobody
	var best offer
	for b := range api.MaxSaBidders {
		if some.Has(b) && o[b].ahead(best) {
			bidder, best = b, o[b]
		}
	}
	return bidder, best.most
}

// with returns the offers of those who bid if some bidders are a ring: of these just the best one does.
func (o offers) with(ring pick.Set) offers {
	best, _ := o.best(ring)
	for _, member := range ring.List() {
		if member != best {
			o[member] = offer{}
		}
	}
	return o
}

// nobody returns the result of a lot that is not sold.
func nobody() api.SaResult { return api.SaResult{Bidder: api.SaNobody} }

// result returns who buys a lot, and for what, by the offers of those who bid for it.
func (v sale) result(lot int, o offers) api.SaResult {
	all, reserve := pick.All(len(v.Bidders)), v.Lots[lot].Reserve
	buyer, most := o.best(all)
	if most < reserve {
		return nobody()
	}
	_, others := o.best(all &^ pick.One(buyer))
	return api.SaResult{Bidder: buyer, Price: v.price(reserve, most, others)}
}

// behind returns the price behind a price.
func (v sale) behind(price int) int {
	by := 0
	for _, step := range v.Steps {
		if step.From <= price {
			by = step.By
		}
	}
	return price + by
}

// end returns the From of the step behind one, or what no price reaches, if there is none.
func (v sale) end(step int) int {
	if step+1 < len(v.Steps) {
		return v.Steps[step+1].From
	}
	return math.MaxInt
}

// price returns the first of the prices from a reserve on that is above the most of all others, or behind which comes one above the most of the buyer.
func (v sale) price(reserve, most, others int) int {
	price := reserve
steps:
	for i, step := range v.Steps {
		for end := v.end(i); price < end; {
			if price > others || price+step.By > most {
				break steps
			}
			// A step can be a penny: all prices that are surely passed are passed at once.
			passed := (min(others+1, most, end) - price) / step.By
			price += max(1, passed) * step.By
		}
	}
	return price
}
