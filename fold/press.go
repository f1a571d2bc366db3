package fold

import (
	"iter"

	"duodecimo/api"
	"duodecimo/check"
	"duodecimo/quire"
)

// partNone is the part that Check and CheckBook return without an error.
const partNone = 0

// The parts of a press in which Check finds an error.
const (
	partFormats = 1
	partPapers  = 2
	partLimits  = 3
)

// press is a press without an error that is looked at.
type press struct{ api.FoPress }

// open returns the press to look at, or the error of the press.
func open(p api.FoPress) (press, api.Errno) {
	if _, _, e := Check(p); e != api.OK {
		return press{}, e
	}
	return press{p}, api.OK
}

// formatError returns a function that is given one format after the other, and returns the error of each.
func formatError() func(int, api.FoFormat) api.Errno {
	nameError := check.Names(quire.Name)
	return func(_ int, f api.FoFormat) api.Errno {
		if e := nameError(f.Name); e != api.OK {
			return e
		}
		switch {
		case !check.Within(1, api.MaxFoFolds, len(f.Folds)):
			return api.ErrLong
		case !areFolds(f.Folds):
			return api.ErrForm
		}
		return api.OK
	}
}

// paperError returns a function that is given one paper after the other, and returns the error of each.
func paperError() func(int, api.FoPaper) api.Errno {
	nameError := check.Names(quire.Name)
	return func(_ int, p api.FoPaper) api.Errno {
		if e := nameError(p.Name); e != api.OK {
			return e
		}
		return check.Spans(1, api.MaxFoSize, p.Wide, p.High)
	}
}

// makeError returns the error of a way of making.
func (p press) makeError(m api.FoMake) api.Errno {
	switch {
	case !check.Within(0, len(p.Formats)-1, m.Format) || !check.Within(0, len(p.Papers)-1, m.Paper):
		return api.ErrNone
	case !check.Within(1, p.Sheets, m.Sheets):
		return api.ErrRange
	case m.Half && (m.Sheets != 1 || len(p.Formats[m.Format].Folds) == 1):
		return api.ErrArg
	}
	return api.OK
}

// makes yields all ways of making, in order.
func (p press) makes() iter.Seq[api.FoMake] {
	return func(yield func(api.FoMake) bool) {
		for format := range p.Formats {
			for paper := range p.Papers {
				for before := range p.Sheets {
					for _, half := range []bool{false, true} {
						m := api.FoMake{Format: format, Paper: paper, Sheets: before + 1, Half: half}
						if p.makeError(m) == api.OK && !yield(m) {
							return
						}
					}
				}
			}
		}
	}
}
