package quire

import (
	"strconv"
	"strings"

	"duodecimo/api"
)

// reader reads a text from its beginning, and panics where the text has not the form that is read.
type reader struct{ rest string }

// parse returns what read makes of all of a text.
func parse[T any](text string, read func(*reader) T) (result T, e api.Errno) {
	defer func() {
		if recover() != nil {
			var none T
			result, e = none, api.ErrForm
		}
	}()
	r := &reader{text}
	result = read(r)
	if r.rest != "" {
		r.fail()
	}
	return result, api.OK
}

// fail ends the reading.
func (r *reader) fail() { panic(api.ErrForm) }

// skip reads a word if it comes next, and reports whether it did.
func (r *reader) skip(word string) bool {
	rest, found := strings.CutPrefix(r.rest, word)
	r.rest = rest
	return found
}

// must reads a word.
func (r *reader) must(word string) {
	if !r.skip(word) {
		r.fail()
	}
}

// digit reads a digit if one comes next.
func (r *reader) digit() (int, bool) {
	for d := range 10 {
		if r.skip(strconv.Itoa(d)) {
			return d, true
		}
	}
	return 0, false
}

// number reads a number. None that a formula or a leaf can have is above the most leaves of a gathering.
func (r *reader) number() int {
	n, ok := r.digit()
	if !ok {
		r.fail()
	}
	// A zero at the beginning is the whole number.
	for n > 0 {
		d, ok := r.digit()
		if !ok {
			break
		}
		n = 10*n + d
		if n > api.MaxQuLeaves {
			r.fail()
		}
	}
	return n
}

// sig reads a signature.
func (r *reader) sig() api.QuSig {
	s := api.QuSig{Round: 1}
	for round := 2; round <= api.MaxQuRounds; round++ {
		if r.skip(strconv.Itoa(round)) {
			s.Round = round
			break
		}
	}
	s.Letter = r.letter()
	return s
}

// letter reads the letter of a signature.
func (r *reader) letter() int {
	for i, c := range letters {
		if r.skip(string(c)) {
			return i
		}
	}
	if r.skip(piText) {
		return api.QuPi
	}
	r.must(chiText)
	return api.QuChi
}

// change reads a change.
func (r *reader) change() api.QuChange {
	var c api.QuChange
	if r.skip("-") {
		c.Kind = api.QuLess
		c.At = r.number()
		return c
	}
	if r.skip("=") {
		c.Kind = api.QuSwap
		c.At = r.number()
		return c
	}
	c.Kind = api.QuPlus
	c.At = r.number()
	r.must("+")
	c.Many = r.number()
	return c
}

// changes reads the changes of a gathering, if it has some.
func (r *reader) changes() []api.QuChange {
	if !r.skip("(") {
		return nil
	}
	var found [api.MaxQuChanges]api.QuChange
	n := 0
	for n == 0 || r.skip(",") {
		if n == len(found) {
			r.fail()
		}
		c := r.change()
		found[n] = c
		n++
	}
	r.must(")")
	list := make([]api.QuChange, n)
	copy(list, found[:n])
	return list
}

// item reads an item of a formula.
func (r *reader) item() item {
	var x item
	x.first = r.sig()
	if !r.skip("-") {
		x.kind, x.last = itemSingle, x.first
		x.leaves = r.number()
		x.changes = r.changes()
		return x
	}
	x.kind = itemRange
	x.last = r.sig()
	if !lettered(x.first) || !lettered(x.last) || !behind(x.last, x.first) {
		r.fail()
	}
	x.leaves = r.number()
	return x
}

// readBook reads a formula. The book that it stands for may have an error.
func readBook(r *reader) api.QuBook {
	var items []item
	for !r.skip("$") {
		x := r.item()
		items = append(items, x)
		r.must(" ")
	}
	signed := r.number()
	return api.QuBook{Signed: signed, Gatherings: gatheringsOf(items)}
}

// readLeaf reads the name of a leaf that some book has.
func readLeaf(r *reader) leafName {
	var n leafName
	n.sig = r.sig()
	n.number = r.number()
	if r.skip("+") {
		n.plus = r.number()
		if n.plus == 0 {
			r.fail()
		}
	}
	if !n.possible() {
		r.fail()
	}
	return n
}
