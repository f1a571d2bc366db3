package quire

import (
	"iter"
	"strconv"

	"duodecimo/api"
	"duodecimo/check"
)

// volume is a book without an error that is gone through leaf by leaf.
type volume struct{ api.QuBook }

// open returns the volume of a book, or the error of the book.
func open(b api.QuBook) (volume, api.Errno) {
	if _, _, e := Check(b); e != api.OK {
		return volume{}, e
	}
	return volume{b}, api.OK
}

// leaves yields the leaves with their numbers.
func (v volume) leaves() iter.Seq2[int, api.QuLeaf] {
	return func(yield func(int, api.QuLeaf) bool) {
		n := 0
		for i, g := range v.Gatherings {
			for l := range leavesOf(i, g) {
				if !yield(n, l) {
					return
				}
				n++
			}
		}
	}
}

// leavesOf yields the leaves of the gathering with an index.
func leavesOf(index int, g api.QuGathering) iter.Seq[api.QuLeaf] {
	return func(yield func(api.QuLeaf) bool) {
		for number := range g.Leaves + 1 {
			f := fateAt(g.Changes, number)
			l := api.QuLeaf{Gathering: index, Number: number, Kind: api.QuOwn}
			if f.swapped {
				l.Kind = api.QuCancel
			}
			// Number 0 is only the place ahead of all leaves.
			if number > 0 && !f.gone && !yield(l) {
				return
			}
			l.Kind = api.QuNew
			for i := range f.added {
				l.Plus = i + 1
				if !yield(l) {
					return
				}
			}
		}
	}
}

// leaf returns the leaf with a number, and whether there is one.
func (v volume) leaf(n int) (api.QuLeaf, bool) {
	for m, l := range v.leaves() {
		if m == n {
			return l, true
		}
	}
	return api.QuLeaf{}, false
}

// signed reports whether a leaf is signed.
func (v volume) signed(l api.QuLeaf) bool {
	return lettered(v.Gatherings[l.Gathering].Sig) && l.Kind != api.QuNew && l.Number <= v.Signed
}

// leafName is what is written of a leaf: two leaves are written alike if and only if their names are the same.
type leafName struct {
	sig          api.QuSig
	number, plus int
}

// name returns the name of a leaf.
func (v volume) name(l api.QuLeaf) leafName {
	return leafName{v.Gatherings[l.Gathering].Sig, l.Number, l.Plus}
}

// names returns the names of all leaves.
func (v volume) names() []leafName {
	var list []leafName
	for _, l := range v.leaves() {
		list = append(list, v.name(l))
	}
	return list
}

// text returns how the leaf is written.
func (n leafName) text() string {
	text := sigText(n.sig) + strconv.Itoa(n.number)
	if n.plus > 0 {
		text += "+" + strconv.Itoa(n.plus)
	}
	return text
}

// possible reports whether some book has a leaf with this name.
func (n leafName) possible() bool {
	if n.number == 0 && n.plus == 0 {
		return false
	}
	return check.Within(0, api.MaxQuLeaves, n.number) && check.Within(0, api.MaxQuPlus, n.plus)
}
