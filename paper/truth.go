package paper

import (
	"iter"
	"slices"

	"duodecimo/api"
	"duodecimo/pick"
)

// truth is what truths have in common that have the same stocks of all places, and the same order.
type truth struct {
	pile
	order []int
}

// stocks returns the stocks that a gathering has.
func (t truth) stocks(gathering int) pick.Set {
	return t.places[slices.Index(t.order, gathering)]
}

// has reports whether a gathering has the stock that it is seen with.
func (t truth) has(s api.PpSeen) bool { return t.stocks(s.Gathering).Has(s.Stock) }

// begun returns of how many reams a sheet was used.
func (t truth) begun() api.Span { return span(t.reams) }

// truths yields all truths, in the order of their orders.
func (p printing) truths() iter.Seq[truth] {
	return func(yield func(truth) bool) {
		for order := range pick.Orders(p.Gatherings) {
			for _, pile := range p.piles {
				if !yield(truth{pile, order}) {
					return
				}
			}
		}
	}
}

// agreeing returns the truths that agree, in the order of their orders.
func (p printing) agreeing() []truth {
	var list []truth
truths:
	for t := range p.truths() {
		for _, s := range p.Seen {
			if !t.has(s) {
				continue truths
			}
		}
		list = append(list, t)
	}
	return list
}

// odds yields of each truth the things seen without which it agrees.
func (p printing) odds() iter.Seq[pick.Set] {
	return func(yield func(pick.Set) bool) {
		for t := range p.truths() {
			var odd pick.Set
			for i, s := range p.Seen {
				if !t.has(s) {
					odd |= pick.One(i)
				}
			}
			if !yield(odd) {
				return
			}
		}
	}
}

// ordersOf returns the orders of truths that are in the order of their orders, each one once.
func ordersOf(truths []truth) [][]int {
	var list [][]int
	for _, t := range truths {
		list = append(list, t.order)
	}
	return slices.CompactFunc(list, slices.Equal)
}

// orders returns the orders of all truths that agree, each one once.
func (a agreed) orders() [][]int { return ordersOf(a.truths) }

// always reports whether a gathering was printed before another one in all truths that agree.
func (a agreed) always(first, second int) bool {
	return !slices.ContainsFunc(a.truths, func(t truth) bool {
		return slices.Index(t.order, first) > slices.Index(t.order, second)
	})
}

// worst returns how many orders at most are left if one more sheet of a gathering is looked at.
func (a agreed) worst(gathering int) int {
	var orders ends[int]
	for stock := range a.Stocks {
		// A stock that the gathering cannot have leaves none, which is never most.
		orders.add(len(ordersOf(a.with(api.PpSeen{Gathering: gathering, Stock: stock}))))
	}
	return orders.greatest
}

// with returns the truths that agree with one more thing seen, too.
func (a agreed) with(s api.PpSeen) []truth {
	return slices.DeleteFunc(slices.Clone(a.truths), func(t truth) bool { return !t.has(s) })
}

// reach returns the least and the greatest number of what is asked of all truths that agree.
func (a agreed) reach(ask func(truth) api.Span) api.Span {
	var numbers ends[int]
	for _, t := range a.truths {
		s := ask(t)
		numbers.add(s.Lo, s.Hi)
	}
	return span(numbers)
}

// left returns how many sheets are left of the pile in a truth.
func (a agreed) left(t truth) api.Span {
	sheets := span(t.sheets)
	return api.Span{Lo: sheets.Lo - used(a.PpCase), Hi: sheets.Hi - used(a.PpCase)}
}

// latest returns in which years the latest of the stocks that gatherings have can have been made.
func (a agreed) latest(t truth) api.Span {
	var years api.Span
	for _, stock := range t.printedOn().List() {
		made := a.Stocks[stock].Made
		years.Lo = max(years.Lo, made.Lo)
		years.Hi = max(years.Hi, made.Hi)
	}
	return years
}
