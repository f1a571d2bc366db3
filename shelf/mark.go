package shelf

import (
	"cmp"
	"slices"
	"strconv"

	"duodecimo/api"
	"duodecimo/check"
	"duodecimo/quire"
	"duodecimo/scan"
)

// stop is written between the class and the number of a mark.
const stop = "."

// markError returns the error of a mark in a room with some classes.
func markError(classes []string, m api.SfMark) api.Errno {
	if !check.Within(0, len(classes)-1, m.Class) {
		return api.ErrNone
	}
	return numberError(m)
}

// numberError returns the error of a mark whatever its class is.
func numberError(m api.SfMark) api.Errno {
	switch {
	case !check.Within(1, api.MaxSfNumber, m.Number):
		return api.ErrRange
	case !isSuffix(m.Suffix):
		return api.ErrForm
	}
	return api.OK
}

// isSuffix reports whether a mark can have a suffix.
func isSuffix(s string) bool {
	if len(s) > api.MaxSfSuffix {
		return false
	}
	for _, c := range s {
		if c < 'a' || c > 'z' {
			return false
		}
	}
	return true
}

// compare returns -1 if a mark comes before another one, 1 if it comes behind it, and 0 if they are the same.
func compare(a, b api.SfMark) int {
	return cmp.Or(
		cmp.Compare(a.Class, b.Class),
		cmp.Compare(a.Number, b.Number),
		cmp.Compare(len(a.Suffix), len(b.Suffix)),
		cmp.Compare(a.Suffix, b.Suffix),
	)
}

// markText returns how a mark without an error is written.
func markText(classes []string, m api.SfMark) string {
	return classes[m.Class] + stop + strconv.Itoa(m.Number) + m.Suffix
}

// written is what a mark that is written says: the name of its class, and the mark but for the index of it.
type written struct {
	class string
	mark  api.SfMark
}

// readMark reads a mark. Names of classes can have full stops and digits, too.
func readMark(r *scan.Reader) written {
	var w written
	w.class = r.UpToLast(stop)
	w.mark.Number = r.Number(api.MaxSfNumber)
	w.mark.Suffix = r.Rest()
	if !quire.Name(w.class) || numberError(w.mark) != api.OK {
		r.Fail()
	}
	return w
}

// in returns the mark if its class is one of some classes, otherwise ErrNone.
func (w written) in(classes []string) (api.SfMark, api.Errno) {
	class := slices.Index(classes, w.class)
	if class < 0 {
		return api.SfMark{}, api.ErrNone
	}
	w.mark.Class = class
	return w.mark, api.OK
}
