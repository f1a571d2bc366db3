package fold

import (
	"slices"

	"duodecimo/api"
)

// The letters of folds: the right half is turned over onto the left one, or the lower half onto the upper one.
const (
	foldX = 'x'
	foldY = 'y'
)

// mostSide is the most columns, and the most rows, that a sheet can have.
const mostSide = 1 << api.MaxFoFolds

// areFolds reports whether all letters are those of folds.
func areFolds(folds string) bool {
	for _, letter := range folds {
		if letter != foldX && letter != foldY {
			return false
		}
	}
	return true
}

// lastFold returns the letter of the last fold.
func lastFold(folds string) rune { return rune(folds[len(folds)-1]) }

// grid returns how many columns and rows of leaves a sheet with these folds has.
func grid(folds string) (columns, rows int) {
	columns, rows = 1, 1
	for _, letter := range folds {
		if letter == foldX {
			columns *= 2
		} else {
			rows *= 2
		}
	}
	return columns, rows
}

// bed is a sheet that is folded: piles of leaves by column and row, each from its lowest leaf up.
type bed struct {
	columns, rows int
	piles         [mostSide][mostSide][]api.FoLeaf
}

// spread returns the sheet as it lies before its folds.
func spread(folds string) *bed {
	b := &bed{}
	b.columns, b.rows = grid(folds)
	for c := range b.columns {
		for r := range b.rows {
			b.piles[c][r] = []api.FoLeaf{{Column: c, Row: r}}
		}
	}
	return b
}

// fold turns one half of the sheet over onto the other one. Heads is whether heads then point the other way.
func (b *bed) fold(letter rune, heads bool) {
	columns, rows := b.columns, b.rows
	b.columns, b.rows = b.kept(letter)
	for c := range b.columns {
		for r := range b.rows {
			over := b.piles[c][rows-1-r]
			if letter == foldX {
				over = b.piles[columns-1-c][r]
			}
			b.piles[c][r] = append(b.piles[c][r], turnedOver(over, heads)...)
		}
	}
}

// kept returns how many columns and rows are left after a fold.
func (b *bed) kept(letter rune) (columns, rows int) {
	if letter == foldX {
		return b.columns / 2, b.rows
	}
	return b.columns, b.rows / 2
}

// turnedOver returns the leaves of a pile as they lie when it is turned over.
func turnedOver(pile []api.FoLeaf, heads bool) []api.FoLeaf {
	over := make([]api.FoLeaf, len(pile))
	copy(over, pile)
	slices.Reverse(over)
	for i, l := range over {
		over[i].Inner = !l.Inner
		over[i].Turned = l.Turned != heads
	}
	return over
}

// folded returns the leaves of a sheet after all folds, from the lowest one up.
func folded(folds string) []api.FoLeaf {
	b := spread(folds)
	last := lastFold(folds)
	for _, letter := range folds {
		b.fold(letter, letter != last)
	}
	return b.piles[0][0]
}

// gathered returns the leaves of sheets that lie in each other, all folded alike.
func gathered(leaves []api.FoLeaf, sheets int) []api.FoLeaf {
	middle := len(leaves) / 2
	var list []api.FoLeaf
	for sheet := range sheets {
		list = append(list, ofSheet(leaves[:middle], sheet)...)
	}
	for behind := range sheets {
		list = append(list, ofSheet(leaves[middle:], sheets-1-behind)...)
	}
	return list
}

// ofSheet returns leaves as those of the sheet with an index.
func ofSheet(leaves []api.FoLeaf, sheet int) []api.FoLeaf {
	list := slices.Clone(leaves)
	for i := range list {
		list[i].Sheet = sheet
	}
	return list
}
