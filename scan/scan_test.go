package scan_test

import (
	"math"
	"strconv"
	"testing"

	"duodecimo/api"
	"duodecimo/scan"
)

// A text is read as a whole: nothing may be left; where it has not the form that is read, there is no result.
func TestAll(t *testing.T) {
	read := func(r *scan.Reader) int {
		n := 0
		for r.Skip("ab") {
			n++
		}
		if r.Skip("!") {
			r.Fail()
		}
		return n
	}
	for i, c := range []struct {
		text string
		want int
		e    api.Errno
	}{
		{"", 0, api.OK}, {"ab", 1, api.OK}, {"ababab", 3, api.OK}, {"aba", 0, api.ErrForm}, {"b", 0, api.ErrForm},
		{"!", 0, api.ErrForm}, {"abab!", 0, api.ErrForm}, {"ab!ab", 0, api.ErrForm}, {"AB", 0, api.ErrForm}, {"\xff", 0, api.ErrForm},
	} {
		if n, e := scan.All(c.text, read); n != c.want || e != c.e {
			t.Errorf("%d: All = %d, %d", i, n, e)
		}
	}
}

// Whatever a reader panics with, there is no result.
func TestPanics(t *testing.T) {
	if n, e := scan.All("text", func(r *scan.Reader) int { return len("abc") / len(r.Rest()[4:]) }); n != 0 || e != api.ErrForm {
		t.Errorf("All = %d, %d", n, e)
	}
	if s, e := scan.All("text", func(*scan.Reader) []int { panic("no") }); s != nil || e != api.ErrForm {
		t.Errorf("All = %v, %d", s, e)
	}
}

// A word that does not come next stays unread; one that must come ends the reading.
func TestSkipMust(t *testing.T) {
	for i, c := range []struct {
		text string
		want string
		e    api.Errno
	}{
		{"one two", "two", api.OK}, {"one ", "", api.OK}, {"one", "", api.ErrForm}, {"on", "", api.ErrForm}, {" one", "", api.ErrForm}, {"", "", api.ErrForm},
	} {
		s, e := scan.All(c.text, func(r *scan.Reader) string {
			if r.Skip("two") || r.Skip("one  ") || !r.Skip("") {
				r.Fail()
			}
			r.Must("one")
			r.Must(" ")
			return r.Rest()
		})
		if s != c.want || e != c.e {
			t.Errorf("%d: %q, %d", i, s, e)
		}
	}
}

// What comes before a word ends where it comes for the last time; without the word there is none.
func TestUpToLast(t *testing.T) {
	for i, c := range []struct {
		text, before, behind string
		e                    api.Errno
	}{
		{"a.b", "a", "b", api.OK}, {"a.b.c", "a.b", "c", api.OK}, {".", "", "", api.OK}, {"..", ".", "", api.OK}, {".a", "", "a", api.OK}, {"a.", "a", "", api.OK},
		{"", "", "", api.ErrForm}, {"ab", "", "", api.ErrForm}, {"a,b", "", "", api.ErrForm}, {"\xff.\xff", "\xff", "\xff", api.OK},
	} {
		s, e := scan.All(c.text, func(r *scan.Reader) [2]string {
			before := r.UpToLast(".")
			return [2]string{before, r.Rest()}
		})
		if s != [2]string{c.before, c.behind} || e != c.e {
			t.Errorf("%d: %q, %d", i, s, e)
		}
	}
	s, e := scan.All("x::y:::z", func(r *scan.Reader) string { return r.UpToLast("::") + "|" + r.Rest() })
	if s != "x::y:|z" || e != api.OK {
		t.Errorf("%q, %d", s, e)
	}
}

// A number ends before what is no digit, or behind a zero at its beginning; it is not above the most, however long it is.
func TestNumber(t *testing.T) {
	for i, c := range []struct {
		text   string
		most   int
		number int
		rest   string
		e      api.Errno
	}{
		{"0", 0, 0, "", api.OK}, {"0", 12, 0, "", api.OK}, {"00", 12, 0, "0", api.OK}, {"012", 12, 0, "12", api.OK}, {"1", 0, 0, "", api.ErrForm}, {"7", 7, 7, "", api.OK}, {"8", 7, 0, "", api.ErrForm}, {"10", 7, 0, "", api.ErrForm},
		{"12", 12, 12, "", api.OK}, {"13", 12, 0, "", api.ErrForm}, {"12a", 12, 12, "a", api.OK}, {"120", 12, 0, "", api.ErrForm}, {"9999", 9999, 9999, "", api.OK}, {"10000", 9999, 0, "", api.ErrForm}, {"9999999999999999999999", 9999, 0, "", api.ErrForm},
		{"", 12, 0, "", api.ErrForm}, {"a", 12, 0, "", api.ErrForm}, {"-1", 12, 0, "", api.ErrForm}, {"+1", 12, 0, "", api.ErrForm}, {" 1", 12, 0, "", api.ErrForm}, {"1 ", 12, 1, " ", api.OK}, {"1.5", 12, 1, ".5", api.OK}, {"٣", 12, 0, "", api.ErrForm},
		{strconv.Itoa(math.MaxInt), math.MaxInt, math.MaxInt, "", api.OK}, {strconv.Itoa(math.MaxInt), math.MaxInt - 1, 0, "", api.ErrForm}, {strconv.Itoa(math.MaxInt) + "0", math.MaxInt, 0, "", api.ErrForm}, {"9223372036854775808", math.MaxInt, 0, "", api.ErrForm},
	} {
		type read struct {
			number int
			rest   string
		}
		x, e := scan.All(c.text, func(r *scan.Reader) read {
			n := r.Number(c.most)
			return read{n, r.Rest()}
		})
		if x != (read{c.number, c.rest}) || e != c.e {
			t.Errorf("%d: %v, %d", i, x, e)
		}
	}
	for n := range 3000 {
		if got, e := scan.All(strconv.Itoa(n), func(r *scan.Reader) int { return r.Number(2500) }); n <= 2500 && (got != n || e != api.OK) || n > 2500 && e != api.ErrForm {
			t.Errorf("%d: %d, %d", n, got, e)
		}
	}
}
