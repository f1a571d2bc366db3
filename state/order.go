package state

import (
	"iter"
	"slices"

	"duodecimo/api"
	"duodecimo/check"
	"duodecimo/pick"
)

// order is an order of corrections that is looked at.
type order struct {
	api.StOrder
	states map[pick.Set]state        // by the loci that were corrected
	times  [api.MaxStCopies]pick.Set // of each copy the numbers of corrections after which it can be printed
}

// newOrder returns an order of corrections, by all states that its first readings allow.
func newOrder(o api.StOrder, states map[pick.Set]state) order {
	v := order{StOrder: o, states: states}
	for k, s := range v.after() {
		for i, astray := range s {
			if astray == 0 {
				v.times[i] |= pick.One(k)
			}
		}
	}
	return v
}

// after yields the states after each number of corrections.
func (o order) after() iter.Seq2[int, state] {
	return func(yield func(int, state) bool) {
		var corrected pick.Set
		for k, locus := range o.Loci {
			if !yield(k, o.states[corrected]) {
				return
			}
			corrected |= pick.One(locus)
		}
		yield(len(o.Loci), o.states[corrected])
	}
}

// agrees reports whether a copy agrees with the order.
func (o order) agrees(copy int) bool { return o.times[copy] != 0 }

// odd returns the copies that do not agree with the order. What is no copy shows nothing, so it agrees.
func (o order) odd() pick.Set {
	var odd pick.Set
	for i := range api.MaxStCopies {
		if !o.agrees(i) {
			odd |= pick.One(i)
		}
	}
	return odd
}

// corrected reports whether a locus was corrected before another one.
func (o order) corrected(a, b int) bool { return slices.Index(o.Loci, a) < slices.Index(o.Loci, b) }

// earlier reports whether a copy is earlier than another one, if both agree.
func (o order) earlier(a, b int) bool { return o.times[a].Greatest() < o.times[b].Least() }

// astray yields, state by state, the loci at which a copy shows the other reading.
func (o order) astray(copy int) iter.Seq[pick.Set] {
	return func(yield func(pick.Set) bool) {
		for _, s := range o.after() {
			if !yield(s[copy]) {
				return
			}
		}
	}
}

// addMistakes adds to a list the fewest readings of a copy without which it agrees with the order.
func (o order) addMistakes(list []api.StReading, copy int) []api.StReading {
	loci, _ := pick.Best(o.astray(copy), pick.Set.Ahead)
	for _, locus := range loci.List() {
		list = append(list, api.StReading{Copy: copy, Locus: locus})
	}
	return list
}

// firstReadings returns what can be the first reading of the next locus.
func (f forme) firstReadings(list []int) []int {
	if known := f.Loci[len(list)].First; known != api.StUnknown {
		return []int{known}
	}
	return []int{api.StA, api.StB}
}

// orders yields all orders of the forme, in their order.
func (f forme) orders() iter.Seq[order] {
	return func(yield func(order) bool) {
		for first := range pick.Lists(len(f.Loci), f.firstReadings) {
			states := f.states(first)
			for loci := range pick.Orders(len(f.Loci)) {
				if !yield(newOrder(api.StOrder{First: first, Loci: loci}, states)) {
					return
				}
			}
		}
	}
}

// agreeing yields the orders that agree, in their order.
func (f forme) agreeing() iter.Seq[order] {
	return func(yield func(order) bool) {
	orders:
		for o := range f.orders() {
			for i := range f.Copies {
				if !o.agrees(i) {
					continue orders
				}
			}
			if !yield(o) {
				return
			}
		}
	}
}

// agreed returns the orders that agree, or ErrDown if there is none.
func (f forme) agreed() ([]order, api.Errno) {
	list := slices.Collect(f.agreeing())
	if len(list) == 0 {
		return nil, api.ErrDown
	}
	return list, api.OK
}

// openAgreed returns the orders of a forme that agree; or the error of the forme, ErrNone if some index is none of so many things, or ErrDown.
func openAgreed(f api.StForme, many int, indices ...int) ([]order, api.Errno) {
	v, e := open(f)
	if e != api.OK {
		return nil, e
	}
	if !check.Within(0, many-1, indices...) {
		return nil, api.ErrNone
	}
	return v.agreed()
}
