package fold_test

import (
	"math"
	"slices"
	"strings"
	"testing"

	"duodecimo/api"
	"duodecimo/fold"
)

// pressWith is the example after a change.
func pressWith(change func(*api.FoPress)) api.FoPress {
	p := example()
	change(&p)
	return p
}

// formats is the example with other formats.
func formats(list ...api.FoFormat) api.FoPress {
	return pressWith(func(p *api.FoPress) { p.Formats = list })
}

// papers is the example with other papers.
func papers(list ...api.FoPaper) api.FoPress {
	return pressWith(func(p *api.FoPress) { p.Papers = list })
}

// limited is the example with another trim and other sheets.
func limited(trim, sheets int) api.FoPress {
	return pressWith(func(p *api.FoPress) { p.Trim, p.Sheets = trim, sheets })
}

// pot is the paper of the example with other sizes.
func pot(wide, high api.Span) api.FoPaper { return paper("pot", wide, high) }

// pressCase is a press, and what Check returns.
type pressCase struct {
	p        api.FoPress
	part, at int
	e        api.Errno
}

// pressCases are presses with and without errors.
func pressCases() []pressCase {
	one, good := format("one", "x"), span(5, 5)
	long := strings.Repeat("a", api.MaxName)
	return []pressCase{
		{example(), 0, 0, api.OK},
		{api.FoPress{}, 1, 0, api.ErrLong},
		{pressWith(func(p *api.FoPress) { p.Formats = make([]api.FoFormat, 7); p.Papers = nil }), 1, 0, api.ErrLong},
		{formats(one, format("b", "y"), format("c", "xx"), format("d", "yyyy"), format("e", "xyxy"), format("f", "x")), 0, 0, api.OK},
		{formats(format(long, "x")), 0, 0, api.OK},
		{formats(one, format(long+"a", "")), 1, 1, api.ErrForm},
		{formats(one, format("", ""), format("", "")), 1, 1, api.ErrForm},
		{formats(format("Folio", "x")), 1, 0, api.ErrForm},
		{formats(one, format("two", "y"), format("one", "")), 1, 2, api.ErrTwice},
		{formats(one, format("one", "z")), 1, 1, api.ErrTwice},
		{formats(one, format("two", "")), 1, 1, api.ErrLong},
		{formats(one, format("two", "zzzzz")), 1, 1, api.ErrLong},
		{formats(one, format("two", strings.Repeat("x", 1<<20))), 1, 1, api.ErrLong},
		{formats(one, format("two", "z")), 1, 1, api.ErrForm},
		{formats(one, format("two", "xyz")), 1, 1, api.ErrForm},
		{formats(one, format("two", "wx")), 1, 1, api.ErrForm},
		{formats(one, format("two", "X")), 1, 1, api.ErrForm},
		{formats(one, format("two", "x ")), 1, 1, api.ErrForm},
		{formats(one, format("two", "x\xff")), 1, 1, api.ErrForm},
		{formats(one, format("two", "\u00e9")), 1, 1, api.ErrForm},
		{formats(one, format("two", "\u00e9\u00e9x")), 1, 1, api.ErrLong},
		{formats(one, format("two", "z"), format("", "")), 1, 1, api.ErrForm},
		{pressWith(func(p *api.FoPress) { p.Formats[2].Folds = ""; p.Papers = nil }), 1, 2, api.ErrLong},
		{papers(), 2, 0, api.ErrLong},
		{papers(make([]api.FoPaper, 5)...), 2, 0, api.ErrLong},
		{papers(paper("a", good, good), paper("b", good, good), paper("c", good, good), paper("folio", good, good)), 0, 0, api.OK},
		{papers(pot(span(1, 2000), span(2000, 2000)), paper("b", span(1, 1), span(1, 1))), 0, 0, api.OK},
		{papers(pot(good, good), paper("", span(0, 0), good)), 2, 1, api.ErrForm},
		{papers(paper("p o", good, good)), 2, 0, api.ErrForm},
		{papers(pot(good, good), pot(span(0, 0), good)), 2, 1, api.ErrTwice},
		{papers(pot(span(0, 5), good)), 2, 0, api.ErrRange},
		{papers(pot(span(5, 2001), good)), 2, 0, api.ErrRange},
		{papers(pot(good, span(0, 5))), 2, 0, api.ErrRange},
		{papers(pot(good, span(5, 2001))), 2, 0, api.ErrRange},
		{papers(pot(span(2001, 5), good)), 2, 0, api.ErrRange},
		{papers(pot(good, span(5, 0))), 2, 0, api.ErrRange},
		{papers(pot(span(6, 5), span(5, 2001))), 2, 0, api.ErrRange},
		{papers(pot(span(math.MinInt, math.MaxInt), good)), 2, 0, api.ErrRange},
		{papers(pot(good, good), paper("b", span(6, 5), good)), 2, 1, api.ErrArg},
		{papers(paper("b", good, span(6, 5)), pot(good, span(0, 0))), 2, 0, api.ErrArg},
		{pressWith(func(p *api.FoPress) { p.Papers[0].High = span(2, 1); p.Trim = -1 }), 2, 0, api.ErrArg},
		{limited(0, 1), 0, 0, api.OK},
		{limited(60, 4), 0, 0, api.OK},
		{limited(-1, 1), 3, 0, api.ErrRange},
		{limited(61, 1), 3, 0, api.ErrRange},
		{limited(0, 0), 3, 0, api.ErrRange},
		{limited(0, 5), 3, 0, api.ErrRange},
		{limited(math.MinInt, math.MaxInt), 3, 0, api.ErrRange},
	}
}

// P2.1: the errors of a press in their order, and those before it of all other functions.
func TestCheck(t *testing.T) {
	for i, c := range pressCases() {
		part, at, e := fold.Check(c.p)
		if part != c.part || at != c.at || e != c.e {
			t.Errorf("%d: Check = %d, %d, %d", i, part, at, e)
		}
		if c.e == api.OK {
			continue
		}
		if part, at, e := fold.CheckBook(c.p, api.FoBook{}); part != 0 || at != 0 || e != c.e {
			t.Errorf("%d: CheckBook = %d, %d, %d", i, part, at, e)
		}
		for name, e := range errorsOf(c.p) {
			if e != c.e {
				t.Errorf("%d: %s: %d", i, name, e)
			}
		}
	}
}

// seenWith is a gathering of 4 leaves after a change.
func seenWith(change func(*api.FoBook)) api.FoBook {
	b := unknown(4)
	change(&b)
	return b
}

// sized is a gathering of 4 leaves of some sizes.
func sized(wide, high api.Span) api.FoBook {
	return seenWith(func(b *api.FoBook) { b.Wide, b.High = wide, high })
}

// bookCase is what is seen of a gathering, and what CheckBook returns.
type bookCase struct {
	b        api.FoBook
	part, at int
	e        api.Errno
}

// bookCases are gatherings with and without errors.
func bookCases() []bookCase {
	many := func(n int) api.FoBook { return unknown(64, make([]api.FoMark, n)...) }
	list := []bookCase{
		{unknown(1), 0, 0, api.OK},
		{unknown(64), 0, 0, api.OK},
		{unknown(63), 0, 0, api.OK},
		{api.FoBook{}, 1, 0, api.ErrRange},
		{unknown(0), 1, 0, api.ErrRange},
		{unknown(65), 1, 0, api.ErrRange},
		{seenWith(func(b *api.FoBook) { b.Leaves, b.Chain = math.MinInt, 9 }), 1, 0, api.ErrRange},
		{seenWith(func(b *api.FoBook) { b.Leaves, b.Wide = math.MaxInt, span(-1, -1) }), 1, 0, api.ErrRange},
		{sized(span(0, 0), span(2000, 2000)), 0, 0, api.OK},
		{sized(span(2000, 2000), span(0, 0)), 0, 0, api.OK},
		{sized(span(-1, 0), anySize), 3, 0, api.ErrRange},
		{sized(span(0, 2001), anySize), 3, 0, api.ErrRange},
		{sized(anySize, span(-1, 0)), 3, 0, api.ErrRange},
		{sized(anySize, span(0, 2001)), 3, 0, api.ErrRange},
		{sized(span(6, 5), span(0, 2001)), 3, 0, api.ErrRange},
		{sized(span(6, 5), anySize), 3, 0, api.ErrArg},
		{sized(anySize, span(6, 5)), 3, 0, api.ErrArg},
		{sized(anySize, span(math.MaxInt, math.MinInt)), 3, 0, api.ErrRange},
		{seenWith(func(b *api.FoBook) { b.High = span(6, 5); b.Marks = make([]api.FoMark, 9) }), 3, 0, api.ErrArg},
		{many(8), 0, 0, api.OK},
		{many(9), 4, 0, api.ErrLong},
		{unknown(4, append(make([]api.FoMark, 8), mark(4, true))...), 4, 0, api.ErrLong},
		{unknown(4, mark(0, true), mark(3, true), mark(3, false), mark(3, true)), 0, 0, api.OK},
		{unknown(4, mark(0, true), mark(4, true), mark(-1, false)), 4, 1, api.ErrNone},
		{unknown(4, mark(-1, false)), 4, 0, api.ErrNone},
		{unknown(64, mark(63, false), mark(64, false)), 4, 1, api.ErrNone},
		{unknown(4, mark(1, true), mark(2, true), mark(math.MaxInt, true)), 4, 2, api.ErrNone},
		{unknown(4, mark(math.MinInt, true)), 4, 0, api.ErrNone},
	}
	for _, n := range numbers(api.FoUnknown, api.FoUpright, api.FoAcross) {
		c := bookCase{seenWith(func(b *api.FoBook) { b.Chain = n }), 0, 0, api.OK}
		if n != 0 && n != 1 && n != 2 {
			c = bookCase{seenWith(func(b *api.FoBook) { b.Chain, b.Wide = n, span(1, 0) }), 2, 0, api.ErrArg}
		}
		list = append(list, c)
	}
	return list
}

// P2.2, P2.5, P2.6: the errors of what is seen in their order, and those before it of Agree, Together and Wrong.
func TestCheckBook(t *testing.T) {
	for i, c := range bookCases() {
		part, at, e := fold.CheckBook(example(), c.b)
		if part != c.part || at != c.at || e != c.e {
			t.Errorf("%d: CheckBook = %d, %d, %d", i, part, at, e)
		}
		if c.e == api.OK {
			continue
		}
		list, e := fold.Agree(example(), c.b)
		must, may, f := fold.Together(example(), c.b, -1)
		wrong, g := fold.Wrong(example(), c.b)
		if e != c.e || f != c.e || g != c.e || len(list)+len(must)+len(may)+len(wrong) != 0 {
			t.Errorf("%d: Agree = %v, %d; Together = %v, %v, %d; Wrong = %v, %d", i, list, e, must, may, f, wrong, g)
		}
	}
}

// makeCase is a way of making, and its error.
type makeCase struct {
	m api.FoMake
	e api.Errno
}

// makeCases are ways of making with and without errors of the example.
func makeCases() []makeCase {
	list := []makeCase{
		{api.FoMake{Format: octavo, Sheets: 2}, api.OK},
		{api.FoMake{Format: quarto, Sheets: 1, Half: true}, api.OK},
		{api.FoMake{Format: folio, Sheets: 1, Half: true}, api.ErrArg},
		{api.FoMake{Format: quarto, Sheets: 2, Half: true}, api.ErrArg},
		{api.FoMake{Format: folio, Sheets: 2, Half: true}, api.ErrArg},
		{api.FoMake{Format: folio, Sheets: 3, Half: true}, api.ErrRange},
		{api.FoMake{Format: folio, Sheets: 0, Half: true}, api.ErrRange},
		{api.FoMake{Format: 3, Sheets: 0, Half: true}, api.ErrNone},
		{api.FoMake{Paper: 1, Sheets: 0, Half: true}, api.ErrNone},
	}
	for _, n := range numbers(0, 3) {
		c := makeCase{api.FoMake{Format: n, Sheets: 3}, api.ErrNone}
		if n >= 0 && n < 3 {
			c = makeCase{api.FoMake{Format: n, Sheets: 2}, api.OK}
		}
		list = append(list, c)
	}
	for _, n := range numbers(0) {
		if n != 0 {
			list = append(list, makeCase{api.FoMake{Paper: n, Sheets: 1}, api.ErrNone})
		}
	}
	for _, n := range numbers(0, 2, 4) {
		if n != 1 && n != 2 {
			list = append(list, makeCase{api.FoMake{Format: folio, Sheets: n, Half: true}, api.ErrRange}, makeCase{api.FoMake{Sheets: n}, api.ErrRange})
		}
	}
	return list
}

// P2.3, P2.4: the errors of a way of making in their order, ahead of those of the function.
func TestMakeErrors(t *testing.T) {
	for i, c := range makeCases() {
		leaves, e := fold.Leaves(example(), c.m)
		if e != c.e || (e == api.OK) != (len(leaves) > 0) {
			t.Errorf("%d: Leaves = %v, %d", i, leaves, e)
		}
		if c.e == api.OK {
			continue
		}
		forme, e := fold.Forme(example(), c.m, -1, false)
		mates, conjugate, f := fold.Mates(example(), c.m, -1)
		marked, g := fold.Marked(example(), c.m, []int{2, 2, 2})
		if e != c.e || f != c.e || g != c.e || len(forme)+len(mates)+conjugate+len(marked) != 0 {
			t.Errorf("%d: Forme = %v, %d; Mates = %v, %d, %d; Marked = %v, %d", i, forme, e, mates, conjugate, f, marked, g)
		}
	}
}

// P2.1, P2.5: what is valid is used: a format named like a paper, and all formats, papers and sheets at their limits.
func TestLargest(t *testing.T) {
	p := api.FoPress{Trim: api.MaxFoTrim, Sheets: api.MaxFoSheets}
	for _, name := range []string{"a", "b", "c", "d", "e", "f"} {
		p.Formats = append(p.Formats, format(name, "xyxy"))
	}
	for _, name := range []string{"a", "b", "c", "d"} {
		p.Papers = append(p.Papers, paper(name, span(2000, 2000), span(2000, 2000)))
	}
	var want []api.FoMake
	for f := range 6 {
		for q := range 4 {
			want = append(want, api.FoMake{Format: f, Paper: q, Sheets: 4})
		}
	}
	b := unknown(64)
	b.Wide, b.High = span(500, 500), span(500, 500)
	if list, e := fold.Agree(p, b); !slices.Equal(list, want) || e != api.OK {
		t.Errorf("Agree = %v, %d", list, e)
	}
	if leaves, e := fold.Leaves(p, want[23]); len(leaves) != api.MaxFoLeaves || e != api.OK {
		t.Errorf("Leaves = %v, %d", leaves, e)
	}
}
