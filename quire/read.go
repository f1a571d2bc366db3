package quire

import (
	"strconv"

	"duodecimo/api"
	"duodecimo/scan"
)

// reader reads a formula, or the name of a leaf.
type reader struct{ *scan.Reader }

// parse returns what read makes of all of a text.
func parse[T any](text string, read func(reader) T) (T, api.Errno) {
	return scan.All(text, func(r *scan.Reader) T { return read(reader{r}) })
}

// number reads a number. None that a formula or a leaf can have is above the most leaves of a gathering.
func (r reader) number() int { return r.Number(api.MaxQuLeaves) }

// sig reads a signature.
func (r reader) sig() api.QuSig {
	s := api.QuSig{Round: 1}
	for round := 2; round <= api.MaxQuRounds; round++ {
		if r.Skip(strconv.Itoa(round)) {
			s.Round = round
			break
		}
	}
	s.Letter = r.letter()
	return s
}

// letter reads the letter of a signature.
func (r reader) letter() int {
	for i, c := range letters {
		if r.Skip(string(c)) {
			return i
		}
	}
	if r.Skip(piText) {
		return api.QuPi
	}
	r.Must(chiText)
	return api.QuChi
}

// change reads a change.
func (r reader) change() api.QuChange {
	var c api.QuChange
	if r.Skip("-") {
		c.Kind = api.QuLess
		c.At = r.number()
		return c
	}
	if r.Skip("=") {
		c.Kind = api.QuSwap
		c.At = r.number()
		return c
	}
	c.Kind = api.QuPlus
	c.At = r.number()
	r.Must("+")
	c.Many = r.number()
	return c
}

// changes reads the changes of a gathering, if it has some.
func (r reader) changes() []api.QuChange {
	if !r.Skip("(") {
		return nil
	}
	var found [api.MaxQuChanges]api.QuChange
	n := 0
	for n == 0 || r.Skip(",") {
		if n == len(found) {
			r.Fail()
		}
		c := r.change()
		found[n] = c
		n++
	}
	r.Must(")")
	list := make([]api.QuChange, n)
	copy(list, found[:n])
	return list
}

// item reads an item of a formula.
func (r reader) item() item {
	var x item
	x.first = r.sig()
	if !r.Skip("-") {
		x.kind, x.last = itemSingle, x.first
		x.leaves = r.number()
		x.changes = r.changes()
		return x
	}
	x.kind = itemRange
	x.last = r.sig()
	if !lettered(x.first) || !lettered(x.last) || !behind(x.last, x.first) {
		r.Fail()
	}
	x.leaves = r.number()
	return x
}

// readBook reads a formula. The book that it stands for may have an error.
func readBook(r reader) api.QuBook {
	var items []item
	for !r.Skip("$") {
		x := r.item()
		items = append(items, x)
		r.Must(" ")
	}
	signed := r.number()
	return api.QuBook{Signed: signed, Gatherings: gatheringsOf(items)}
}

// readLeaf reads the name of a leaf that some book has.
func readLeaf(r reader) leafName {
	var n leafName
	n.sig = r.sig()
	n.number = r.number()
	if r.Skip("+") {
		n.plus = r.number()
		if n.plus == 0 {
			r.Fail()
		}
	}
	if !n.possible() {
		r.Fail()
	}
	return n
}
