package fold

import "duodecimo/api"

// place is where a leaf is: two leaves of a gathering have different ones.
type place struct{ sheet, column, row int }

// way is a way of making without an error that is looked at.
type way struct {
	api.FoMake
	folds         string // of the format
	columns, rows int    // of the whole sheet
	paper         api.FoPaper
	trim          int
	leaves        []api.FoLeaf
}

// openWay returns the way of making to look at, or its error or that of the press.
func openWay(p api.FoPress, m api.FoMake) (way, api.Errno) {
	v, e := open(p)
	if e != api.OK {
		return way{}, e
	}
	if e := v.makeError(m); e != api.OK {
		return way{}, e
	}
	return v.way(m), api.OK
}

// way returns a way of making without an error to look at.
func (p press) way(m api.FoMake) way {
	w := way{FoMake: m, folds: p.Formats[m.Format].Folds, paper: p.Papers[m.Paper], trim: p.Trim}
	w.columns, w.rows = grid(w.folds)
	w.leaves = gathered(folded(w.foldsMade()), m.Sheets)
	return w
}

// foldsMade returns the folds without the first one, if the sheet was cut there.
//
// A half-sheet lies where columns and rows begin, so its leaves are those of a whole sheet with the other folds.
func (w way) foldsMade() string {
	if w.Half {
		return w.folds[1:]
	}
	return w.folds
}

// forme returns the pages of a forme, row by row.
func (w way) forme(sheet int, inner bool) []int {
	pages := map[place]int{}
	for i, l := range w.leaves {
		pages[place{l.Sheet, l.Column, l.Row}] = page(i, l, inner)
	}
	var list []int
	columns, rows := grid(w.foldsMade())
	for r := range rows {
		for c := range columns {
			list = append(list, pages[place{sheet, c, r}])
		}
	}
	return list
}

// page returns the page of a leaf that is on the inner, or on the outer, forme: below 0 if it is turned.
func page(leaf int, l api.FoLeaf, inner bool) int {
	n := 2*leaf + 1
	if l.Inner != inner {
		n++
	}
	if l.Turned {
		return -n
	}
	return n
}

// mates returns the other leaves of the sheet of a leaf.
func (w way) mates(leaf int) []int {
	var list []int
	for i, l := range w.leaves {
		if l != w.leaves[leaf] && w.together(i, leaf) {
			list = append(list, i)
		}
	}
	return list
}

// together reports whether two leaves are of the same sheet.
func (w way) together(a, b int) bool { return w.leaves[a].Sheet == w.leaves[b].Sheet }

// conjugate returns the leaf that is conjugate to one: sheets lie in each other, so the two are symmetrical in the gathering as they are in their sheet.
func (w way) conjugate(leaf int) int { return len(w.leaves) - 1 - leaf }

// marked reports whether a piece of the watermark is in a leaf, if it is in this half of the leaf's sheet.
func (w way) marked(leaf, half int) bool {
	l := w.leaves[leaf]
	return touches(l.Column, w.columns, 1+2*half) && touches(l.Row, w.rows, 2)
}

// touches reports whether what is at so many quarters of a sheet's width is in one of its columns, or on the edge of it; rows likewise.
func touches(column, columns, quarters int) bool {
	return 4*column <= quarters*columns && quarters*columns <= 4*(column+1)
}

// upright reports whether the last fold, and so the chain lines, are upright.
func (w way) upright() bool { return lastFold(w.folds) == foldX }

// sizes returns how wide and how high leaves can be after the binder.
func (w way) sizes() (wide, high api.Span) {
	wide, high = part(w.paper.Wide, w.columns), part(w.paper.High, w.rows)
	if !w.upright() {
		wide, high = high, wide
	}
	wide.Lo -= w.trim
	high.Lo -= 2 * w.trim
	return wide, high
}

// part returns what one of several equal parts of a size can be, rounded down.
func part(size api.Span, parts int) api.Span {
	return api.Span{Lo: size.Lo / parts, Hi: size.Hi / parts}
}
