package shelf_test

import (
	"math/rand"
	"regexp"
	"strconv"
	"strings"
	"testing"

	"duodecimo/api"
	"duodecimo/shelf"
)

// library is a room with classes of which one name begins another one, or ends as a mark does.
func library() api.SfRoom {
	r := plain(1)
	r.Classes = []string{"a", "a.1", "a.", "a.1.10", "x1.10a", "abcdefghijklmnop"}
	return r
}

// form is how some mark is written: a name, a full stop, a number without zeros at its beginning, and a suffix.
var form = regexp.MustCompile(`^([a-z][a-z0-9.]{0,15})\.([1-9][0-9]{0,3})([a-z]{0,2})$`)

// meant is the mark that is written so in a room, by another reader.
func meant(r api.SfRoom, text string) (api.SfMark, api.Errno) {
	parts := form.FindStringSubmatch(text)
	if parts == nil {
		return api.SfMark{}, api.ErrForm
	}
	number, _ := strconv.Atoi(parts[2])
	for i, c := range r.Classes {
		if c == parts[1] {
			return mark(i, number, parts[3]), api.OK
		}
	}
	return api.SfMark{}, api.ErrNone
}

// P9.2: how marks are written, and read.
func TestWriteRead(t *testing.T) {
	for _, c := range []struct {
		r    api.SfRoom
		m    api.SfMark
		text string
	}{
		{example(), mark(hist, 10, "a"), "hist.10a"}, {example(), mark(hist, 10, "ab"), "hist.10ab"}, {example(), mark(art, 1, ""), "art.1"}, {example(), mark(art, 9999, "zz"), "art.9999zz"},
		{library(), mark(0, 1, ""), "a.1"}, {library(), mark(1, 10, ""), "a.1.10"}, {library(), mark(2, 1, "a"), "a..1a"}, {library(), mark(3, 2, "b"), "a.1.10.2b"}, {library(), mark(4, 10, "a"), "x1.10a.10a"}, {library(), mark(5, 100, "z"), "abcdefghijklmnop.100z"},
	} {
		if text, e := shelf.Write(c.r, c.m); text != c.text || e != api.OK {
			t.Errorf("Write of %v = %q, %d", c.m, text, e)
		}
		if m, e := shelf.Read(c.r, c.text); m != c.m || e != api.OK {
			t.Errorf("Read of %q = %v, %d", c.text, m, e)
		}
	}
}

// P9.2: a text is no mark whatever the classes are, before its class is none.
func TestReadErrors(t *testing.T) {
	long := strings.Repeat("b", api.MaxName)
	for _, c := range []struct {
		text string
		e    api.Errno
	}{
		{"hist.010", api.ErrForm}, {"law.1", api.ErrNone}, {"hist.1", api.OK}, {"", api.ErrForm}, {".", api.ErrForm}, {"hist", api.ErrForm}, {"hist.", api.ErrForm}, {".1", api.ErrForm}, {"1", api.ErrForm}, {"1.1", api.ErrForm},
		{"hist.0", api.ErrForm}, {"hist.00", api.ErrForm}, {"hist.0a", api.ErrForm}, {"hist.-1", api.ErrForm}, {"hist.+1", api.ErrForm}, {"hist. 1", api.ErrForm}, {"hist .1", api.ErrForm}, {" hist.1", api.ErrForm}, {"hist.1 ", api.ErrForm}, {"hist.1\n", api.ErrForm}, {"hist.a", api.ErrForm}, {"hist.a1", api.ErrForm}, {"hist.1.a", api.ErrForm},
		{"hist.9999", api.OK}, {"hist.10000", api.ErrForm}, {"hist.99999999999999999999", api.ErrForm}, {"hist.09999", api.ErrForm}, {"hist.1e3", api.ErrForm}, {"hist.1zz", api.OK}, {"hist.1zzz", api.ErrForm}, {"hist.1A", api.ErrForm}, {"hist.1a1", api.ErrForm}, {"hist.1.", api.ErrForm}, {"hist.1a.", api.ErrForm}, {"hist.1ä", api.ErrForm}, {"hist.1\xff", api.ErrForm}, {"hist.1\x00", api.ErrForm}, {"hist.٣", api.ErrForm},
		{"Hist.1", api.ErrForm}, {"hIst.1", api.ErrForm}, {"1hist.1", api.ErrForm}, {".hist.1", api.ErrForm}, {"hist-1", api.ErrForm}, {"hist,1", api.ErrForm}, {"hi st.1", api.ErrForm}, {"hi_st.1", api.ErrForm}, {"hïst.1", api.ErrForm}, {"\xff.1", api.ErrForm},
		{"hist..1", api.ErrNone}, {"hist.1.1", api.ErrNone}, {"his.1", api.ErrNone}, {"hist1.1", api.ErrNone}, {"a.1", api.ErrNone}, {"art.art.1", api.ErrNone}, {"x.0.1", api.ErrNone}, {"x.007.7", api.ErrNone}, {"x.99999.9999zz", api.ErrNone},
		{long + ".1", api.ErrNone}, {long + "b.1", api.ErrForm}, {long[1:] + "..1", api.ErrNone}, {long + "..1", api.ErrForm}, {long[1:] + "B.1", api.ErrForm}, {strings.Repeat("a.1", 1<<16), api.ErrForm}, {"hist.1" + strings.Repeat("a", 1<<16), api.ErrForm}, {"hist." + strings.Repeat("1", 1<<16), api.ErrForm},
	} {
		if m, e := shelf.Read(example(), c.text); e != c.e || e != api.OK && m != (api.SfMark{}) {
			t.Errorf("Read of %.20q = %v, %d, not %d", c.text, m, e, c.e)
		}
	}
}

// nearly is a text that is nearly a mark.
func nearly(r *rand.Rand) string {
	class := oneOf(r, "a", "a.1", "a.", "a.1.10", "x1.10a", "abcdefghijklmnop", "b", "a..", "aa", "abcdefghijklmno", "abcdefghijklmnopq", "A", "1a", "")
	text := class + oneOf(r, ".", ".", ".", ".", "", "..") + oneOf(r, "1", "10", "999", "9999", "10000", "0", "01", "12345", "", strconv.Itoa(r.Intn(11000))) + oneOf(r, "", "", "a", "zz", "aaa", "A", ".", "b1", "\xff")
	for range oneOf(r, 0, 0, 1, 2) {
		at := r.Intn(len(text) + 1)
		more := oneOf(r, "", "", "a", ".", "0", "1", " ", "Z")
		text = text[:at] + more + text[min(len(text), at+r.Intn(2)):]
	}
	return text
}

// P9.2, P9.8: texts are read as by another reader, and what is read is written the same.
func TestReadTexts(t *testing.T) {
	r := seed(92)
	found := map[api.Errno]int{}
	for range 30000 {
		text := nearly(r)
		m, e := shelf.Read(library(), text)
		if want, f := meant(library(), text); m != want || e != f {
			t.Errorf("Read of %q = %v, %d, not %v, %d", text, m, e, want, f)
		}
		found[e]++
		if e != api.OK {
			continue
		}
		if again, e := shelf.Write(library(), m); again != text || e != api.OK {
			t.Errorf("%q is written %q, %d", text, again, e)
		}
	}
	for _, e := range []api.Errno{api.OK, api.ErrNone, api.ErrForm} {
		if found[e] < 1000 {
			t.Errorf("just %d texts with %d", found[e], e)
		}
	}
}

// readBack checks that a mark is read as it was written.
func readBack(t *testing.T, r api.SfRoom, m api.SfMark) {
	t.Helper()
	text, e := shelf.Write(r, m)
	if want := r.Classes[m.Class] + "." + strconv.Itoa(m.Number) + m.Suffix; text != want || e != api.OK {
		t.Errorf("Write of %v = %q, %d", m, text, e)
	}
	if again, e := shelf.Read(r, text); again != m || e != api.OK {
		t.Errorf("%v is written %q, and read %v, %d", m, text, again, e)
	}
}

// P9.8: what is written is read back, for all numbers, all suffixes, and all classes of rooms.
func TestReadBack(t *testing.T) {
	for n := range api.MaxSfNumber {
		readBack(t, library(), mark(n%6, n+1, suffixes()[n%703]))
	}
	for i, s := range suffixes() {
		for class := range library().Classes {
			readBack(t, library(), mark(class, i+1, s))
		}
	}
	asks(func(q question, _ told) {
		for _, b := range q.Books {
			readBack(t, q.SfRoom, b.Mark)
		}
	})
}

// P9.3: the class comes first, then the number, then how long the suffix is, then the alphabet.
func TestBefore(t *testing.T) {
	for _, c := range []struct {
		a, b api.SfMark
		want int
	}{
		{mark(art, 1, ""), mark(hist, 10, ""), 1}, {mark(hist, 10, "b"), mark(hist, 10, "aa"), -1}, {mark(hist, 10, "a"), mark(hist, 10, "a"), 0}, {mark(hist, 10, ""), mark(hist, 10, ""), 0},
		{mark(hist, 9999, "zz"), mark(art, 1, ""), -1}, {mark(hist, 9, "zz"), mark(hist, 10, ""), -1}, {mark(hist, 10, ""), mark(hist, 9, ""), 1}, {mark(hist, 100, ""), mark(hist, 20, ""), 1},
		{mark(hist, 10, ""), mark(hist, 10, "a"), -1}, {mark(hist, 10, "z"), mark(hist, 10, "aa"), -1}, {mark(hist, 10, "ab"), mark(hist, 10, "ba"), -1}, {mark(hist, 10, "az"), mark(hist, 10, "ba"), -1}, {mark(hist, 10, "b"), mark(hist, 10, "a"), 1}, {mark(hist, 10, "ab"), mark(hist, 10, "aa"), 1},
	} {
		if n, e := shelf.Before(example(), c.a, c.b); n != c.want || e != api.OK {
			t.Errorf("Before of %v, %v = %d, %d", c.a, c.b, n, e)
		}
		if n, e := shelf.Before(example(), c.b, c.a); n != -c.want || e != api.OK {
			t.Errorf("Before of %v, %v = %d, %d", c.b, c.a, n, e)
		}
	}
}

// P9.9: just one of two marks that are not the same comes before the other one, and what comes before one that comes before a third one comes before this, too.
func TestAnOrder(t *testing.T) {
	r := seed(99)
	var marks []api.SfMark
	for len(marks) < 60 {
		marks = append(marks, someMark(r, 6))
	}
	before := map[[2]api.SfMark]int{}
	for _, a := range marks {
		for _, b := range marks {
			n, e := shelf.Before(library(), a, b)
			m, f := shelf.Before(library(), b, a)
			if e != api.OK || f != api.OK || n != -m || (n == 0) != (a == b) || n < -1 || n > 1 || (n < 0) != comes(a, b) {
				t.Errorf("Before of %v, %v = %d, %d; %d, %d", a, b, n, e, m, f)
			}
			before[[2]api.SfMark{a, b}] = n
		}
	}
	for _, a := range marks {
		for _, b := range marks {
			for _, c := range marks {
				if before[[2]api.SfMark{a, b}] < 0 && before[[2]api.SfMark{b, c}] < 0 && before[[2]api.SfMark{a, c}] >= 0 {
					t.Errorf("%v, %v, %v", a, b, c)
				}
			}
		}
	}
}

// P9.9: all suffixes come in one order.
func TestSuffixes(t *testing.T) {
	for i, s := range suffixes() {
		for k := max(0, i-30); k < len(suffixes()); k += 1 + k/30 {
			want := 0
			if i < k {
				want = -1
			} else if i > k {
				want = 1
			}
			if n, e := shelf.Before(example(), mark(art, 5, s), mark(art, 5, suffixes()[k])); n != want || e != api.OK {
				t.Errorf("Before of %q, %q = %d, %d", s, suffixes()[k], n, e)
			}
		}
	}
}
