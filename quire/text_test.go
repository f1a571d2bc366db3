package quire_test

import (
	"math"
	"math/rand"
	"regexp"
	"strconv"
	"strings"
	"testing"

	"duodecimo/api"
	"duodecimo/quire"
)

// P1.2: how signatures are written, and the next one.
func TestSigs(t *testing.T) {
	for round := 1; round <= api.MaxQuRounds; round++ {
		for letter := range len(alphabet) {
			s := sig(round, letter)
			if text, e := quire.Sig(s); text != sigWritten(s) || e != api.OK {
				t.Errorf("Sig(%v) = %q, %d", s, text, e)
			}
			want, wantE := sig(round, letter+1), api.OK
			switch {
			case letter >= api.QuPi:
				want, wantE = api.QuSig{}, api.ErrArg
			case letter == api.QuLetters-1 && round == api.MaxQuRounds:
				want, wantE = api.QuSig{}, api.ErrNone
			case letter == api.QuLetters-1:
				want = sig(round+1, 0)
			}
			if n, e := quire.Next(s); n != want || e != wantE {
				t.Errorf("Next(%v) = %v, %d", s, n, e)
			}
		}
	}
	for _, s := range []api.QuSig{{}, sig(0, 0), sig(4, 0), sig(4, 23), sig(0, 24), sig(-1, 5), sig(1, -1), sig(1, 25), sig(3, 25), sig(math.MaxInt, 0), sig(math.MinInt, 23), sig(2, math.MaxInt), sig(2, math.MinInt)} {
		if text, e := quire.Sig(s); text != "" || e != api.ErrRange {
			t.Errorf("Sig(%v) = %q, %d", s, text, e)
		}
		if n, e := quire.Next(s); n != (api.QuSig{}) || e != api.ErrRange {
			t.Errorf("Next(%v) = %v, %d", s, n, e)
		}
	}
}

// P1.2: the chapter's examples.
func TestSigExamples(t *testing.T) {
	for s, want := range map[api.QuSig]string{sig(2, 9): "2K", sig(3, 24): "3chi", sig(1, 0): "A", sig(3, 22): "3Z", sig(1, 23): "pi", sig(2, 24): "2chi"} {
		if text, e := quire.Sig(s); text != want || e != api.OK {
			t.Errorf("Sig(%v) = %q, %d", s, text, e)
		}
	}
	if n, e := quire.Next(sig(1, 22)); n != sig(2, 0) || e != api.OK {
		t.Errorf("Next(Z) = %v, %d", n, e)
	}
	if n, e := quire.Next(sig(3, 22)); n != (api.QuSig{}) || e != api.ErrNone {
		t.Errorf("Next(3Z) = %v, %d", n, e)
	}
	if n, e := quire.Next(sig(1, api.QuPi)); n != (api.QuSig{}) || e != api.ErrArg {
		t.Errorf("Next(pi) = %v, %d", n, e)
	}
}

// P1.13: from A one comes to 3Z in 68 steps, and no text is shorter than the one before it.
func TestNextOrder(t *testing.T) {
	s, seen := sig(1, 0), map[api.QuSig]bool{}
	for i := range 68 {
		if seen[s] {
			t.Fatalf("%v comes twice", s)
		}
		seen[s] = true
		n, e := quire.Next(s)
		if e != api.OK {
			t.Fatalf("step %d: Next(%v): %d", i, s, e)
		}
		before, _ := quire.Sig(s)
		text, _ := quire.Sig(n)
		if len(text) < len(before) || n.Round < s.Round || n.Round == s.Round && n.Letter <= s.Letter {
			t.Errorf("%q comes behind %q", text, before)
		}
		s = n
	}
	if s != sig(3, 22) {
		t.Errorf("68 steps end at %v", s)
	}
}

// P1.3: formulas that are written and read.
func TestFormulas(t *testing.T) {
	for _, x := range []struct {
		text string
		b    api.QuBook
	}{
		{"pi2 A-C8 D8(-3,=5,8+1) chi1 $4", example()},
		{"A-B8 $0", book(0, folded(sigA, 8), folded(sigB, 8))},
		{"A8 $12", book(12, folded(sigA, 8))},
		{"A1(-1) $0", book(0, folded(sigA, 1, less(1)))},
		{"A8 B4 $0", book(0, folded(sigA, 8), folded(sigB, 4))},
		{"A8 B-C4 D2 $0", book(0, folded(sigA, 8), folded(sigB, 4), folded(sigC, 4), folded(sig(1, 3), 2))},
		{"A8 C8 $0", book(0, folded(sigA, 8), folded(sigC, 8))},
		{"A-B8 D-E8 $0", book(0, folded(sigA, 8), folded(sigB, 8), folded(sig(1, 3), 8), folded(sig(1, 4), 8))},
		{"A8 pi8 B8 $0", book(0, folded(sigA, 8), folded(sig(1, 23), 8), folded(sigB, 8))},
		{"A8(=1) B8 $0", book(0, folded(sigA, 8, swap(1)), folded(sigB, 8))},
		{"A8 B8(=1) $0", book(0, folded(sigA, 8), folded(sigB, 8, swap(1)))},
		{"A8 B8(-2) C8 $1", book(1, folded(sigA, 8), folded(sigB, 8, less(2)), folded(sigC, 8))},
		{"A8(-1) B8(-1) $1", book(1, folded(sigA, 8, less(1)), folded(sigB, 8, less(1)))},
		{"H-K8 $1", book(1, folded(sig(1, 7), 8), folded(sig(1, 8), 8), folded(sig(1, 9), 8))},
		{"T-X8 $1", book(1, folded(sig(1, 18), 8), folded(sig(1, 19), 8), folded(sig(1, 20), 8))},
		{"Y-2B12 $3", book(3, folded(sig(1, 21), 12), folded(sig(1, 22), 12), folded(sig(2, 0), 12), folded(sig(2, 1), 12))},
		{"2Z-3A10 $3", book(3, folded(sig(2, 22), 10), folded(sig(3, 0), 10))},
		{"A8 2A8 3A8 $0", book(0, folded(sigA, 8), folded(sig(2, 0), 8), folded(sig(3, 0), 8))},
		{"pi4 2pi4 3pi4 chi4 2chi4 $0", book(0, folded(sig(1, 23), 4), folded(sig(2, 23), 4), folded(sig(3, 23), 4), folded(sig(1, 24), 4), folded(sig(2, 24), 4))},
		{"Z8 pi8 $0", book(0, folded(sig(1, 22), 8), folded(sig(1, 23), 8))},
		{"A2(0+4,-1,-2,2+2) $0", book(0, folded(sigA, 2, plus(0, 4), less(1), less(2), plus(2, 2)))},
		{"2chi12(-10,10+4,=11,12+3) $10", book(10, folded(sig(2, 24), 12, less(10), plus(10, 4), swap(11), plus(12, 3)))},
	} {
		if text, e := quire.Write(x.b); text != x.text || e != api.OK {
			t.Errorf("Write(%v) = %q, %d, not %q", x.b, text, e, x.text)
		}
		if b, e := quire.Read(x.text); !sameBook(b, x.b) || e != api.OK {
			t.Errorf("Read(%q) = %v, %d", x.text, b, e)
		}
	}
}

// P1.3: any formula is read, also one that is not the shortest.
func TestReadLonger(t *testing.T) {
	for text, shortest := range map[string]string{
		"A8 B8 $0":                               "A-B8 $0",
		"A-B8 C8 $0":                             "A-C8 $0",
		"A8 B-C8 $0":                             "A-C8 $0",
		"A-B8 C-D8 $0":                           "A-D8 $0",
		"Z8 2A8 $0":                              "Z-2A8 $0",
		"pi2 A8 B8 C8 D8(-3,=5,8+1) chi1 $4":     "pi2 A-C8 D8(-3,=5,8+1) chi1 $4",
		"A8 B8 C6 D6 E6(-1) F6 G6 $2":            "A-B8 C-D6 E6(-1) F-G6 $2",
		"A-E1 F1 G2 H2(1+1) I2 $7":               "A-F1 G2 H2(1+1) I2 $7",
		"S4 T4 V4 X4 Y4 Z4 2A4 2B4 2C4 2D4 $3":   "S-2D4 $3",
		"3X2 3Y2 3Z2 pi2 2pi2 chi2 $3":           "3X-3Z2 pi2 2pi2 chi2 $3",
		"A12 B12 C12(-11) D12 E12 F12(12+1) $12": "A-B12 C12(-11) D-E12 F12(12+1) $12",
	} {
		b, e := quire.Read(text)
		s, f := quire.Write(b)
		if e != api.OK || s != shortest || f != api.OK {
			t.Errorf("Read(%q) = %v, %d; Write = %q, %d", text, b, e, s, f)
		}
	}
}

// P1.3: texts that are no formulas.
func TestReadErrors(t *testing.T) {
	texts := []string{
		"", " ", "$", "$0", " $0", "A8", "A8 ", "A8 $", "A8 $ ", "A8$0", "A8  $0", " A8 $0", "A8 $0 ", "A8 $0\n", "A8\t$0", "A8\n$0", "A8 $0 $0", "A8 $0 B8", "A8 B8", "A8,B8 $0", "A8B8 $0", "A8 0", "A8 £0",
		"A8 $13", "A8 $-1", "A8 $+1", "A8 $00", "A8 $04", "A8 $012", "A8 $a", "A8 $18446744073709551616",
		"A $0", "8 $0", "A-B $0", "A0 $0", "A3 $0", "A13 $0", "A14 $0", "A08 $0", "A008 $0", "A+8 $0", "A-8 $0", "A18446744073709551624 $0", "A4294967304 $0", "A8.0 $0",
		"J8 $0", "U8 $0", "W8 $0", "a8 $0", "z8 $0", "Pi8 $0", "PI8 $0", "p8 $0", "p i8 $0", "ch8 $0", "CHI8 $0", "1A8 $0", "0A8 $0", "4A8 $0", "02A8 $0", "22A8 $0", "23A8 $0", "32A8 $0", "AA8 $0", "1pi8 $0", "4chi8 $0", "É8 $0",
		"A-A8 $0", "B-A8 $0", "2A-A8 $0", "2A-Z8 $0", "A-2J8 $0", "A-4A8 $0", "A-B-C8 $0", "A--B8 $0", "A- B8 $0", "A -B8 $0", "A8-B8 $0", "A-pi8 $0", "pi-A8 $0", "pi-2pi8 $0", "pi-chi8 $0", "A-chi8 $0", "A-B8(-1) $0", "A-B8() $0", "A-B3 $0", "A-3Z8 $0", "A-2I8 $0",
		"A8 A8 $0", "B8 A8 $0", "A-C8 B8 $0", "A-B8 B-C8 $0", "C8 A-B8 $0", "pi8 A8 pi8 $0",
		"A8() $0", "A8( $0", "A8) $0", "A8(-1 $0", "A8-1) $0", "A8(-1,) $0", "A8(,-1) $0", "A8(-1)(-2) $0", "A8(-1,,-2) $0", "A8(-1, -2) $0", "A8(-1 ,-2) $0", "A8 (-1) $0", "A8(-1;-2) $0", "A8[-1] $0", "A8(-1)B8 $0",
		"A8(1) $0", "A8(-) $0", "A8(=) $0", "A8(+) $0", "A8(1+) $0", "A8(+1) $0", "A8(1+1+1) $0", "A8(--1) $0", "A8(-=1) $0", "A8(-1+1) $0", "A8(=1+1) $0", "A8(1-1) $0", "A8(1=1) $0", "A8(1++1) $0",
		"A8(-0) $0", "A8(=0) $0", "A8(-9) $0", "A8(=9) $0", "A8(9+1) $0", "A8(1+0) $0", "A8(1+5) $0", "A8(-01) $0", "A8(=01) $0", "A8(01+1) $0", "A8(00+1) $0", "A8(1+01) $0", "A8(-18446744073709551617) $0", "A8(1+18446744073709551617) $0",
		"A8(-2,-1) $0", "A8(-2,-2) $0", "A8(-2,=2) $0", "A8(2+1,-2) $0", "A8(2+1,2+1) $0", "A8(-1,-2,-3,-4,-5) $0",
		strings.Repeat("A", api.MaxQuText), strings.Repeat(" ", api.MaxQuText),
	}
	for _, text := range texts {
		if b, e := quire.Read(text); e != api.ErrForm || b.Signed != 0 || len(b.Gatherings) != 0 {
			t.Errorf("Read(%q) = %v, %d", text, b, e)
		}
	}
	for _, n := range []int{api.MaxQuText + 1, 1 << 20} {
		if b, e := quire.Read("A8 $4" + strings.Repeat(" ", n-5)); e != api.ErrLong || b.Signed != 0 || len(b.Gatherings) != 0 {
			t.Errorf("Read of %d bytes = %v, %d", n, b, e)
		}
	}
}

const (
	sigForm    = `[23]?(?:[A-IK-TVXYZ]|pi|chi)`
	numberForm = `(?:0|[1-9][0-9]*)`
	changeForm = `(?:[-=]` + numberForm + `|` + numberForm + `\+` + numberForm + `)`
	itemForm   = `(?:` + sigForm + numberForm + `(?:\(` + changeForm + `(?:,` + changeForm + `)*\))?|` + sigForm + `-` + sigForm + numberForm + `)`
)

var (
	formulaForm = regexp.MustCompile(`^` + itemForm + `(?: ` + itemForm + `)* \$` + numberForm + `$`)
	itemParts   = regexp.MustCompile(`^(` + sigForm + `)(?:-(` + sigForm + `))?(` + numberForm + `)(?:\((.*)\))?$`)
)

// meant is the book of a text, by regular expressions, and whether the text is a formula of a book.
func meant(text string) (api.QuBook, bool) {
	if !formulaForm.MatchString(text) {
		return api.QuBook{}, false
	}
	places := map[string]int{}
	for i := range 75 {
		places[sigWritten(placed(i))] = i
	}
	items := strings.Split(text, " ")
	last := len(items) - 1
	b := api.QuBook{Signed: numeral(items[last][1:])}
	for _, item := range items[:last] {
		m := itemParts.FindStringSubmatch(item)
		from := places[m[1]]
		to := from
		if m[2] != "" {
			to = places[m[2]]
			if to <= from || to >= 69 {
				return api.QuBook{}, false
			}
		}
		for i := from; i <= to; i++ {
			b.Gatherings = append(b.Gatherings, folded(placed(i), numeral(m[3]), changesMeant(m[4])...))
		}
	}
	_, _, e := quire.Check(b)
	return b, e == api.OK
}

// placed is the signature at a place: 69 lettered ones, and then pi and chi.
func placed(i int) api.QuSig {
	if i < 69 {
		return sig(1+i/23, i%23)
	}
	return sig(1+(i-69)/2, api.QuPi+(i-69)%2)
}

// numeral is a number; one that is too large is so for any book.
func numeral(s string) int {
	n, err := strconv.Atoi(s)
	if err != nil {
		return math.MaxInt
	}
	return n
}

// changesMeant is what stands between brackets.
func changesMeant(text string) []api.QuChange {
	var list []api.QuChange
	for _, s := range strings.Split(text, ",") {
		switch {
		case s == "":
		case s[0] == '-':
			list = append(list, less(numeral(s[1:])))
		case s[0] == '=':
			list = append(list, swap(numeral(s[1:])))
		default:
			at, many, _ := strings.Cut(s, "+")
			list = append(list, plus(numeral(at), numeral(many)))
		}
	}
	return list
}

// splits are all formulas of a book: each divides its gatherings into items in another way.
func splits(b api.QuBook) []string {
	n := len(b.Gatherings)
	var list []string
	for cuts := range 1 << (n - 1) {
		text := ""
		for i := 0; i < n; i++ {
			j := i
			for j+1 < n && cuts>>j&1 == 0 {
				j++
			}
			text += itemWritten(b.Gatherings[i], b.Gatherings[j]) + " "
			i = j
		}
		text += "$" + strconv.Itoa(b.Signed)
		if m, ok := meant(text); ok && sameBook(m, b) {
			list = append(list, text)
		}
	}
	return list
}

// itemWritten is an item from one gathering to another one.
func itemWritten(g, last api.QuGathering) string {
	text := sigWritten(g.Sig)
	if g.Sig != last.Sig {
		text += "-" + sigWritten(last.Sig)
	}
	text += strconv.Itoa(g.Leaves)
	var changes []string
	for _, c := range g.Changes {
		at := strconv.Itoa(c.At)
		changes = append(changes, map[int]string{api.QuLess: "-" + at, api.QuSwap: "=" + at, api.QuPlus: at + "+" + strconv.Itoa(c.Many)}[c.Kind])
	}
	if len(changes) > 0 {
		text += "(" + strings.Join(changes, ",") + ")"
	}
	return text
}

// P1.7: what is written is read back, and is the book by another reader as well.
func TestReadBack(t *testing.T) {
	for _, b := range books() {
		text, e := quire.Write(b)
		if e != api.OK || len(text) > api.MaxQuText {
			t.Fatalf("Write(%v) = %q, %d", b, text, e)
		}
		if m, ok := meant(text); !ok || !sameBook(m, b) {
			t.Errorf("%q is no formula of %v", text, b)
		}
		if m, e := quire.Read(text); !sameBook(m, b) || e != api.OK {
			t.Errorf("Read(%q) = %v, %d", text, m, e)
		}
	}
}

// P1.7, P1.9: of all formulas of a book each is read, just one is the shortest, and this one is written.
func TestShortest(t *testing.T) {
	r := rand.New(rand.NewSource(3))
	for range 150 {
		b := someBook(r, 8)
		text, e := quire.Write(b)
		if e != api.OK {
			t.Fatalf("Write(%v): %d", b, e)
		}
		found := false
		for _, s := range splits(b) {
			if m, e := quire.Read(s); !sameBook(m, b) || e != api.OK {
				t.Errorf("Read(%q) = %v, %d", s, m, e)
			}
			found = found || s == text
			if s != text && len(s) <= len(text) {
				t.Errorf("%q is written, and %q is no longer", text, s)
			}
		}
		if !found {
			t.Errorf("%q is no formula of %v", text, b)
		}
	}
}

// P1.3, P1.7: texts that are nearly formulas are read if they are some, and become no longer.
func TestReadNearly(t *testing.T) {
	r := rand.New(rand.NewSource(4))
	const bytes = "ABCDJUZabpichi0123456789 $()-=+,x"
	read := 0
	for range 20000 {
		all := splits(someBook(r, 4))
		text := []byte(all[r.Intn(len(all))])
		for range r.Intn(3) {
			i, c := r.Intn(len(text)), bytes[r.Intn(len(bytes))]
			switch r.Intn(3) {
			case 0:
				text[i] = c
			case 1:
				text = append(text[:i], text[i+1:]...)
			case 2:
				text = append(text[:i], append([]byte{c}, text[i:]...)...)
			}
		}
		s := string(text)
		want, ok := meant(s)
		b, e := quire.Read(s)
		if !ok {
			if e != api.ErrForm || b.Signed != 0 || len(b.Gatherings) != 0 {
				t.Fatalf("Read(%q) = %v, %d", s, b, e)
			}
			continue
		}
		read++
		again, f := quire.Write(b)
		same, g := quire.Read(again)
		if e != api.OK || !sameBook(b, want) || f != api.OK || len(again) > len(s) || g != api.OK || !sameBook(same, want) {
			t.Fatalf("Read(%q) = %v, %d; Write = %q, %d; Read = %v, %d", s, b, e, again, f, same, g)
		}
	}
	if read < 1000 {
		t.Errorf("only %d texts were formulas", read)
	}
}
