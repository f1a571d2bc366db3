package quire_test

import (
	"math/rand"
	"slices"
	"strconv"

	"duodecimo/api"
	"duodecimo/quire"
)

// alphabet is written out again here: the tests take no word from the package.
var alphabet = []string{"A", "B", "C", "D", "E", "F", "G", "H", "I", "K", "L", "M", "N", "O", "P", "Q", "R", "S", "T", "V", "X", "Y", "Z", "pi", "chi"}

func sig(round, letter int) api.QuSig { return api.QuSig{Round: round, Letter: letter} }

func less(at int) api.QuChange { return api.QuChange{Kind: api.QuLess, At: at} }

func swap(at int) api.QuChange { return api.QuChange{Kind: api.QuSwap, At: at} }

func plus(at, many int) api.QuChange { return api.QuChange{Kind: api.QuPlus, At: at, Many: many} }

func folded(s api.QuSig, leaves int, changes ...api.QuChange) api.QuGathering {
	return api.QuGathering{Sig: s, Leaves: leaves, Changes: changes}
}

func book(signed int, list ...api.QuGathering) api.QuBook {
	return api.QuBook{Signed: signed, Gatherings: list}
}

// example is B of the chapter's examples.
func example() api.QuBook {
	return book(4,
		folded(sig(1, api.QuPi), 2),
		folded(sig(1, 0), 8),
		folded(sig(1, 1), 8),
		folded(sig(1, 2), 8),
		folded(sig(1, 3), 8, less(3), swap(5), plus(8, 1)),
		folded(sig(1, api.QuChi), 1))
}

// without is the example without a change of D.
func without(change int) api.QuBook {
	b := example()
	b.Gatherings[4].Changes = slices.Delete(b.Gatherings[4].Changes, change, change+1)
	return b
}

// cloned is a book that shares no memory with another one.
func cloned(b api.QuBook) api.QuBook {
	b.Gatherings = slices.Clone(b.Gatherings)
	for i := range b.Gatherings {
		b.Gatherings[i].Changes = slices.Clone(b.Gatherings[i].Changes)
	}
	return b
}

// sameBook reports whether two books are the same; nil and empty are.
func sameBook(a, b api.QuBook) bool {
	return a.Signed == b.Signed && slices.EqualFunc(a.Gatherings, b.Gatherings, func(x, y api.QuGathering) bool {
		return x.Sig == y.Sig && x.Leaves == y.Leaves && slices.Equal(x.Changes, y.Changes)
	})
}

// sigWritten is how a signature is written.
func sigWritten(s api.QuSig) string {
	if s.Round == 1 {
		return alphabet[s.Letter]
	}
	return strconv.Itoa(s.Round) + alphabet[s.Letter]
}

// written is how a leaf of a book is written.
func written(b api.QuBook, l api.QuLeaf) string {
	s := sigWritten(b.Gatherings[l.Gathering].Sig) + strconv.Itoa(l.Number)
	if l.Plus > 0 {
		s += "+" + strconv.Itoa(l.Plus)
	}
	return s
}

// bound makes the leaves of a book as a binder would: it folds all of a gathering, and then changes it from its end on.
func bound(b api.QuBook) []api.QuLeaf {
	var all []api.QuLeaf
	for i, g := range b.Gatherings {
		list := []api.QuLeaf{{Gathering: i}} // a place ahead of all leaves
		for n := 1; n <= g.Leaves; n++ {
			list = append(list, api.QuLeaf{Gathering: i, Number: n})
		}
		for j := len(g.Changes) - 1; j >= 0; j-- {
			c := g.Changes[j]
			switch c.Kind {
			case api.QuLess:
				list = slices.Delete(list, c.At, c.At+1)
			case api.QuSwap:
				list[c.At].Kind = api.QuCancel
			case api.QuPlus:
				for p := c.Many; p > 0; p-- {
					list = slices.Insert(list, c.At+1, api.QuLeaf{Gathering: i, Number: c.At, Plus: p, Kind: api.QuNew})
				}
			}
		}
		all = append(all, list[1:]...)
	}
	return all
}

// someChanges are changes without an error.
func someChanges(r *rand.Rand, leaves int) []api.QuChange {
	var list []api.QuChange
	for at := 0; at <= leaves && len(list) < api.MaxQuChanges; at++ {
		if at > 0 && r.Intn(4) == 0 {
			list = append(list, []api.QuChange{less(at), swap(at)}[r.Intn(2)])
		}
		if len(list) < api.MaxQuChanges && r.Intn(5) == 0 {
			list = append(list, plus(at, 1+r.Intn(api.MaxQuPlus)))
		}
	}
	return list
}

// someBook is a book without an error, of at most so many gatherings.
func someBook(r *rand.Rand, most int) api.QuBook {
	b := api.QuBook{Signed: r.Intn(api.MaxQuLeaves + 1)}
	sizes := []int{1, 2, 4, 6, 8, 10, 12}
	extra := r.Perm(2 * api.MaxQuRounds)
	place, size := r.Intn(30), 8
	for range 1 + r.Intn(most) {
		var s api.QuSig
		if n := len(extra); n > 0 && r.Intn(6) == 0 {
			s = sig(1+extra[n-1]/2, api.QuPi+extra[n-1]%2)
			extra = extra[:n-1]
		} else if place < 3*api.QuLetters {
			s = sig(1+place/api.QuLetters, place%api.QuLetters)
			place++
			if r.Intn(8) == 0 {
				place += r.Intn(4)
			}
		} else {
			break
		}
		if r.Intn(4) == 0 {
			size = sizes[r.Intn(len(sizes))]
		}
		g := folded(s, size)
		if r.Intn(4) == 0 {
			g.Changes = someChanges(r, size)
		}
		b.Gatherings = append(b.Gatherings, g)
	}
	if len(b.Gatherings) == 0 {
		b.Gatherings = append(b.Gatherings, folded(sig(3, api.QuLetters-1), 1))
	}
	return b
}

// edgeBooks are books at the limits of the chapter.
func edgeBooks() []api.QuBook {
	full := api.QuBook{Signed: api.MaxQuLeaves}
	for i := range api.MaxQuGatherings {
		full.Gatherings = append(full.Gatherings, folded(sig(1+i/api.QuLetters, i%api.QuLetters), api.MaxQuLeaves))
	}
	wide := cloned(full)
	for i := range wide.Gatherings {
		wide.Gatherings[i].Changes = []api.QuChange{plus(9, 4), plus(10, 4), plus(11, 4), plus(12, 4)}
	}
	return []api.QuBook{
		example(), full, wide,
		book(0, folded(sig(1, 0), 1)),
		book(12, folded(sig(1, 0), 1, less(1))),
		book(1, folded(sig(3, api.QuLetters-1), 2, less(1), less(2))),
		book(2, folded(sig(3, api.QuChi), 1, plus(0, 4), swap(1), plus(1, 4))),
		book(3, folded(sig(1, 0), 2, plus(0, 1), less(1), plus(1, 2), less(2)), folded(sig(1, 1), 2)),
		book(3, folded(sig(1, 21), 4), folded(sig(1, 22), 4), folded(sig(2, 0), 4), folded(sig(2, 1), 4)),
		book(3, folded(sig(2, 22), 4), folded(sig(3, 0), 4), folded(sig(3, 22), 4)),
		book(3, folded(sig(1, 0), 4), folded(sig(1, api.QuPi), 4), folded(sig(1, 1), 4), folded(sig(2, api.QuPi), 4), folded(sig(2, 1), 4)),
		book(5, folded(sig(3, api.QuPi), 2), folded(sig(1, api.QuPi), 2), folded(sig(1, api.QuChi), 2), folded(sig(2, api.QuChi), 2)),
	}
}

// books are books without an error, always the same ones.
func books() []api.QuBook {
	list := edgeBooks()
	r := rand.New(rand.NewSource(1))
	for i := range 300 {
		list = append(list, someBook(r, 1+i%api.MaxQuGatherings))
	}
	return list
}

// errorsOf are the errors of all functions with a book but Check, each called with an error of its own as well.
func errorsOf(b api.QuBook) map[string]api.Errno {
	_, write := quire.Write(b)
	_, leaves := quire.Leaves(b)
	_, leaf := quire.Leaf(b, -1)
	_, find := quire.Find(b, "no leaf")
	_, mate := quire.Mate(b, -1)
	_, signs := quire.Signs(b)
	_, left := quire.Differ(b, api.QuBook{Signed: -1})
	_, right := quire.Differ(example(), b)
	return map[string]api.Errno{"Write": write, "Leaves": leaves, "Leaf": leaf, "Find": find, "Mate": mate, "Signs": signs, "Differ of a": left, "Differ of b": right}
}
