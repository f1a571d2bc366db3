// Package quire is layer 1: names, signatures, gatherings, collation formulas, leaves and their mates.
package quire

import (
	"duodecimo/api"
	"duodecimo/check"
)

// Name reports whether a string is a name.
func Name(s string) bool {
	if !check.Within(1, api.MaxName, len(s)) {
		return false
	}
	for i, c := range s {
		small := 'a' <= c && c <= 'z'
		inner := '0' <= c && c <= '9' || c == '.'
		if !small && (i == 0 || !inner) {
			return false
		}
	}
	return true
}

// Check returns the part, the index in it and the error of a book.
func Check(b api.QuBook) (part, at int, e api.Errno) {
	if !check.Within(0, api.MaxQuLeaves, b.Signed) {
		return partBook, 0, api.ErrRange
	}
	if !check.Within(1, api.MaxQuGatherings, len(b.Gatherings)) {
		return partBook, 0, api.ErrLong
	}
	before := earlier{sigs: map[api.QuSig]bool{}}
	at, e = check.First(b.Gatherings, before.check)
	if e != api.OK {
		return partGatherings, at, e
	}
	return partNone, 0, api.OK
}

// Sig returns how a signature is written.
func Sig(s api.QuSig) (string, api.Errno) {
	if !isSig(s) {
		return "", api.ErrRange
	}
	return sigText(s), api.OK
}

// Next returns the next signature.
func Next(s api.QuSig) (api.QuSig, api.Errno) {
	if !isSig(s) {
		return api.QuSig{}, api.ErrRange
	}
	if !lettered(s) {
		return api.QuSig{}, api.ErrArg
	}
	n := following(s)
	if !isSig(n) {
		return api.QuSig{}, api.ErrNone
	}
	return n, api.OK
}

// Write returns the shortest formula of a book.
func Write(b api.QuBook) (string, api.Errno) {
	v, e := open(b)
	if e != api.OK {
		return "", e
	}
	return formula(v.Signed, itemsOf(v.Gatherings)), api.OK
}

// Read returns the book of a formula.
func Read(text string) (api.QuBook, api.Errno) {
	if len(text) > api.MaxQuText {
		return api.QuBook{}, api.ErrLong
	}
	b, e := parse(text, readBook)
	if e != api.OK {
		return api.QuBook{}, e
	}
	if _, _, e := Check(b); e != api.OK {
		return api.QuBook{}, api.ErrForm
	}
	return b, api.OK
}

// Leaves returns all leaves of a book.
func Leaves(b api.QuBook) ([]api.QuLeaf, api.Errno) {
	v, e := open(b)
	if e != api.OK {
		return nil, e
	}
	var list []api.QuLeaf
	for _, l := range v.leaves() {
		list = append(list, l)
	}
	return list, api.OK
}

// Leaf returns how a leaf is written.
func Leaf(b api.QuBook, n int) (string, api.Errno) {
	v, e := open(b)
	if e != api.OK {
		return "", e
	}
	l, ok := v.leaf(n)
	if !ok {
		return "", api.ErrNone
	}
	return v.name(l).text(), api.OK
}

// Find returns the number of a leaf that is written so.
func Find(b api.QuBook, leaf string) (int, api.Errno) {
	v, e := open(b)
	if e != api.OK {
		return 0, e
	}
	wanted, e := parse(leaf, readLeaf)
	if e != api.OK {
		return 0, e
	}
	for n, l := range v.leaves() {
		if v.name(l) == wanted {
			return n, api.OK
		}
	}
	return 0, api.ErrNone
}

// Mate returns the number of the mate of a leaf.
func Mate(b api.QuBook, n int) (int, api.Errno) {
	v, e := open(b)
	if e != api.OK {
		return 0, e
	}
	l, ok := v.leaf(n)
	if !ok || l.Kind != api.QuOwn {
		return 0, api.ErrNone
	}
	mate := l
	mate.Number = v.Gatherings[l.Gathering].Leaves + 1 - l.Number
	if mate == l {
		return 0, api.ErrNone
	}
	for m, other := range v.leaves() {
		if other == mate {
			return m, api.OK
		}
	}
	return 0, api.ErrNone
}

// Signs returns the numbers of all leaves that are signed.
func Signs(b api.QuBook) ([]int, api.Errno) {
	v, e := open(b)
	if e != api.OK {
		return nil, e
	}
	var list []int
	for n, l := range v.leaves() {
		if v.signed(l) {
			list = append(list, n)
		}
	}
	return list, api.OK
}

// Differ returns the first leaf in which two books differ.
func Differ(a, b api.QuBook) (int, api.Errno) {
	v, e := open(a)
	if e != api.OK {
		return 0, e
	}
	w, e := open(b)
	if e != api.OK {
		return 0, e
	}
	x, y := v.names(), w.names()
	both := min(len(x), len(y))
	for n := range both {
		if x[n] != y[n] {
			return n, api.OK
		}
	}
	if len(x) == len(y) {
		return 0, api.ErrNone
	}
	return both, api.OK
}
