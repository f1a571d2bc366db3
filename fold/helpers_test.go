package fold_test

import (
	"fmt"
	"math"
	"math/rand"
	"slices"
	"strings"

	"duodecimo/api"
	"duodecimo/fold"
)

// anySize is the span of a size of which nothing is known.
var anySize = api.Span{Lo: 0, Hi: api.MaxFoSize}

// Indices of the formats of the chapter's example.
const (
	folio  = 0
	quarto = 1
	octavo = 2
)

func span(lo, hi int) api.Span { return api.Span{Lo: lo, Hi: hi} }

func format(name, folds string) api.FoFormat { return api.FoFormat{Name: name, Folds: folds} }

func paper(name string, wide, high api.Span) api.FoPaper {
	return api.FoPaper{Name: name, Wide: wide, High: high}
}

func make1(format int) api.FoMake { return api.FoMake{Format: format, Sheets: 1} }

// example is P of the chapter's examples.
func example() api.FoPress {
	return api.FoPress{
		Formats: []api.FoFormat{format("folio", "x"), format("quarto", "xy"), format("octavo", "xyx")},
		Papers:  []api.FoPaper{paper("pot", span(400, 410), span(300, 306))},
		Trim:    10, Sheets: 2,
	}
}

// unknown is a gathering of which nothing but its leaves, and marks, is known.
func unknown(leaves int, marks ...api.FoMark) api.FoBook {
	return api.FoBook{Leaves: leaves, Wide: anySize, High: anySize, Marks: marks}
}

func mark(leaf int, seen bool) api.FoMark { return api.FoMark{Leaf: leaf, Seen: seen} }

// allFolds are the folds of all formats that can be.
func allFolds() []string {
	list := []string{"x", "y"}
	for i := 0; len(list[i]) < api.MaxFoFolds; i++ {
		list = append(list, list[i]+"x", list[i]+"y")
	}
	return list
}

// made is a press of one format, and a way of making.
type made struct {
	api.FoPress
	api.FoMake
	folds string
}

func (m made) String() string {
	return fmt.Sprintf("%s, %d sheets, half %t", m.folds, m.FoMake.Sheets, m.Half)
}

// allMade are all ways of making with all formats.
func allMade() []made {
	var list []made
	for _, folds := range allFolds() {
		p := example()
		p.Formats = append(p.Formats, format("new", folds))
		p.Sheets = api.MaxFoSheets
		for sheets := 1; sheets <= api.MaxFoSheets; sheets++ {
			list = append(list, made{p, api.FoMake{Format: 3, Sheets: sheets}, folds})
		}
		if len(folds) > 1 {
			list = append(list, made{p, api.FoMake{Format: 3, Sheets: 1, Half: true}, folds})
		}
	}
	return list
}

// sides are the columns and rows of a sheet.
func sides(folds string) (columns, rows int) {
	return 1 << strings.Count(folds, "x"), 1 << strings.Count(folds, "y")
}

// cut are the folds that are made, and the columns and rows that are folded.
func (m made) cut() (folds string, columns, rows int) {
	columns, rows = sides(m.folds)
	if !m.Half {
		return m.folds, columns, rows
	}
	if m.folds[0] == 'x' {
		return m.folds[1:], columns / 2, rows
	}
	return m.folds[1:], columns, rows / 2
}

// followed are the leaves of a gathering by another way: each leaf is followed alone through all folds, by where it is and how many lie below it.
func followed(m made) []api.FoLeaf {
	folds, columns, rows := m.cut()
	n := columns * rows
	list := make([]api.FoLeaf, n*m.FoMake.Sheets)
	for column := range columns {
		for row := range rows {
			at := [2]int{column, row}
			sides := [2]int{columns, rows}
			below, height := 0, 1
			var over [2]int
			for i := range len(folds) {
				d := int(folds[i] - 'x')
				sides[d] /= 2
				if at[d] >= sides[d] {
					at[d] = 2*sides[d] - 1 - at[d]
					below = 2*height - 1 - below
					over[d]++
				}
				height *= 2
			}
			other := 1 - int(folds[len(folds)-1]-'x')
			for sheet := range m.FoMake.Sheets {
				i := sheet*n/2 + below
				if below >= n/2 {
					i = len(list) - (sheet+1)*n/2 + below - n/2
				}
				list[i] = api.FoLeaf{Sheet: sheet, Column: column, Row: row, Inner: (over[0]+over[1])%2 == 1, Turned: over[other]%2 == 1}
			}
		}
	}
	return list
}

// touched reports whether a leaf has a piece of the watermark, by another way: the sheet is 64 squares wide and high, and the leaf has one of the four squares about the mark.
func touched(folds string, l api.FoLeaf, half int) bool {
	columns, rows := sides(folds)
	x, y := 16+32*half, 32
	for _, square := range [][2]int{{x - 1, y - 1}, {x, y - 1}, {x - 1, y}, {x, y}} {
		if square[0]*columns/64 == l.Column && square[1]*rows/64 == l.Row {
			return true
		}
	}
	return false
}

// canBe reports whether one of the sizes of a sheet, divided and trimmed, is in a span, by trying all.
func canBe(size api.Span, parts, trim int, seen api.Span) bool {
	for n := size.Lo; n <= size.Hi; n++ {
		for off := 0; off <= trim; off++ {
			if m := n/parts - off; seen.Lo <= m && m <= seen.Hi {
				return true
			}
		}
	}
	return false
}

// falsePieces are the pieces of evidence that are not true of a gathering that was made so, with its watermarks in these halves.
func falsePieces(p api.FoPress, b api.FoBook, m api.FoMake, halves []int) []int {
	folds, sheet := p.Formats[m.Format].Folds, p.Papers[m.Paper]
	columns, rows := sides(folds)
	upright := strings.HasSuffix(folds, "x")
	wide, high := sheet.Wide, sheet.High
	if !upright {
		wide, high, columns, rows = high, wide, rows, columns
	}
	var list []int
	if b.Chain == api.FoUpright && !upright || b.Chain == api.FoAcross && upright {
		list = append(list, 0)
	}
	if !canBe(wide, columns, p.Trim, b.Wide) {
		list = append(list, 1)
	}
	if !canBe(high, rows, 2*p.Trim, b.High) {
		list = append(list, 2)
	}
	leaves := followed(made{p, m, folds})
	for i, k := range b.Marks {
		l := leaves[k.Leaf]
		if touched(folds, l, halves[l.Sheet]) != k.Seen {
			list = append(list, 3+i)
		}
	}
	return list
}

// outcome is what is false of a way of making with its watermarks in some halves.
type outcome struct {
	api.FoMake
	wrong []int
}

// outcomes are those of all ways of making with as many leaves as there are, in order, with all halves.
func outcomes(p api.FoPress, b api.FoBook) []outcome {
	var list []outcome
	for _, m := range makes(p) {
		if len(followed(made{p, m, p.Formats[m.Format].Folds})) != b.Leaves {
			continue
		}
		for n := range 1 << m.Sheets {
			var halves []int
			for sheet := range m.Sheets {
				halves = append(halves, n>>sheet&1)
			}
			list = append(list, outcome{m, falsePieces(p, b, m, halves)})
		}
	}
	return list
}

// makes are all ways of making of a press, in order.
func makes(p api.FoPress) []api.FoMake {
	var list []api.FoMake
	for f := range p.Formats {
		for q := range p.Papers {
			list = append(list, api.FoMake{Format: f, Paper: q, Sheets: 1})
			if len(p.Formats[f].Folds) > 1 {
				list = append(list, api.FoMake{Format: f, Paper: q, Sheets: 1, Half: true})
			}
			for sheets := 2; sheets <= p.Sheets; sheets++ {
				list = append(list, api.FoMake{Format: f, Paper: q, Sheets: sheets})
			}
		}
	}
	return list
}

// someSpan is a span of numbers from lo to hi, rarely wider than wide.
func someSpan(r *rand.Rand, lo, hi, wide int) api.Span {
	s := span(lo+r.Intn(hi-lo+1), 0)
	s.Hi = min(hi, s.Lo+r.Intn(wide+1))
	return s
}

// somePress is a press without an error.
func somePress(r *rand.Rand) api.FoPress {
	p := api.FoPress{Trim: r.Intn(api.MaxFoTrim + 1), Sheets: 1 + r.Intn(api.MaxFoSheets)}
	if r.Intn(2) == 0 {
		p.Trim = r.Intn(5)
	}
	folds := allFolds()
	for i := range 1 + r.Intn(api.MaxFoFormats) {
		p.Formats = append(p.Formats, format(fmt.Sprint("f", i), folds[r.Intn(len(folds))]))
	}
	for i := range 1 + r.Intn(api.MaxFoPapers) {
		q := paper(fmt.Sprint("p", i), someSpan(r, 300, 500, 12), someSpan(r, 250, 400, 12))
		switch r.Intn(6) {
		case 0:
			q.Wide = someSpan(r, 1, 20, 5)
		case 1:
			q.High = someSpan(r, 1, 20, 5)
		case 2:
			q.Wide = someSpan(r, api.MaxFoSize-20, api.MaxFoSize, 20)
		}
		p.Papers = append(p.Papers, q)
	}
	return p
}

// truth is a gathering as it was made: how, of sheets of which sizes, with what taken off, and with watermarks in which halves.
type truth struct {
	api.FoMake
	leaves             []api.FoLeaf
	wide, high, chains int
	halves             []int
	folds              string
}

// someTruth makes a gathering in one of the ways of a press.
func someTruth(r *rand.Rand, p api.FoPress) truth {
	all := makes(p)
	t := truth{FoMake: all[r.Intn(len(all))]}
	t.folds = p.Formats[t.Format].Folds
	t.leaves = followed(made{p, t.FoMake, t.folds})
	columns, rows := sides(t.folds)
	q := p.Papers[t.Paper]
	column := (q.Wide.Lo + r.Intn(q.Wide.Hi-q.Wide.Lo+1)) / columns
	row := (q.High.Lo + r.Intn(q.High.Hi-q.High.Lo+1)) / rows
	t.wide, t.high, t.chains = column, row, api.FoUpright
	if strings.HasSuffix(t.folds, "y") {
		t.wide, t.high, t.chains = row, column, api.FoAcross
	}
	t.wide -= min(t.wide, r.Intn(p.Trim+1))
	t.high -= min(t.high, r.Intn(2*p.Trim+1))
	for range t.Sheets {
		t.halves = append(t.halves, r.Intn(2))
	}
	return t
}

// seen is what somebody sees of the gathering: true, but not all.
func (t truth) seen(r *rand.Rand) api.FoBook {
	b := unknown(len(t.leaves))
	if r.Intn(3) > 0 {
		b.Chain = t.chains
	}
	if r.Intn(3) > 0 {
		b.Wide = span(max(0, t.wide-r.Intn(4)), min(api.MaxFoSize, t.wide+r.Intn(4)))
	}
	if r.Intn(3) > 0 {
		b.High = span(max(0, t.high-r.Intn(4)), min(api.MaxFoSize, t.high+r.Intn(4)))
	}
	for range r.Intn(api.MaxFoMarks + 1) {
		b.Marks = append(b.Marks, t.mark(r))
	}
	return b
}

// mark is what is seen in some leaf of the gathering.
func (t truth) mark(r *rand.Rand) api.FoMark {
	leaf := r.Intn(len(t.leaves))
	l := t.leaves[leaf]
	return mark(leaf, touched(t.folds, l, t.halves[l.Sheet]))
}

// mistaken is what is seen with some pieces of evidence that can be wrong.
func mistaken(r *rand.Rand, b api.FoBook) api.FoBook {
	b.Marks = slices.Clone(b.Marks)
	for range r.Intn(5) {
		switch i := r.Intn(6); {
		case i == 0:
			b.Chain = r.Intn(3)
		case i == 1:
			b.Wide = someSpan(r, 0, 210, 4)
		case i == 2:
			b.High = someSpan(r, 0, 210, 4)
		case len(b.Marks) > 0:
			j := r.Intn(len(b.Marks))
			b.Marks[j].Seen = !b.Marks[j].Seen
		}
	}
	return b
}

// case1 is a press and what is seen of a gathering.
type case1 struct {
	p api.FoPress
	b api.FoBook
}

// cases are presses and gatherings without an error, always the same ones.
func cases() []case1 {
	r := rand.New(rand.NewSource(2))
	var list []case1
	for range 1200 {
		p := somePress(r)
		b := someTruth(r, p).seen(r)
		switch r.Intn(4) {
		case 0:
			b = mistaken(r, b)
		case 1:
			b = mistaken(r, mistaken(r, b))
		case 2:
			b.Marks = nil
			for range r.Intn(api.MaxFoMarks + 1) {
				b.Marks = append(b.Marks, mark(r.Intn(b.Leaves), r.Intn(2) == 0))
			}
		}
		list = append(list, case1{p, b})
	}
	return list
}

// numbers are ints far beyond all limits, and about them.
func numbers(limits ...int) []int {
	list := []int{math.MinInt, math.MinInt + 1, -1, math.MaxInt - 1, math.MaxInt}
	for _, n := range limits {
		list = append(list, n-1, n, n+1)
	}
	return list
}

// errorsOf are the errors of all functions but Check and CheckBook, each called with errors of its own as well; none may return anything else with an error.
func errorsOf(p api.FoPress) map[string]api.Errno {
	m, b := api.FoMake{Format: -1, Half: true}, api.FoBook{Leaves: -1}
	leaves, e1 := fold.Leaves(p, m)
	forme, e2 := fold.Forme(p, m, -1, true)
	mates, conjugate, e3 := fold.Mates(p, m, -1)
	marked, e4 := fold.Marked(p, m, []int{2})
	agree, e5 := fold.Agree(p, b)
	must, may, e6 := fold.Together(p, b, -1)
	wrong, e7 := fold.Wrong(p, b)
	list := map[string]api.Errno{"Leaves": e1, "Forme": e2, "Mates": e3, "Marked": e4, "Agree": e5, "Together": e6, "Wrong": e7}
	if len(leaves)+len(forme)+len(mates)+conjugate+len(marked)+len(agree)+len(must)+len(may)+len(wrong) != 0 {
		list["a result with an error"] = -1
	}
	return list
}
