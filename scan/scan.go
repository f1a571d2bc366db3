// Package scan contains what the layers use to read texts.
package scan

import (
	"strconv"
	"strings"

	"duodecimo/api"
)

// Reader reads a text from its beginning, and panics where the text has not the form that is read.
type Reader struct{ rest string }

// All returns what read makes of all of a text, or ErrForm if the text has not the form that is read, or more comes behind it.
func All[T any](text string, read func(*Reader) T) (result T, e api.Errno) {
	defer func() {
		if recover() != nil {
			var none T
			result, e = none, api.ErrForm
		}
	}()
	r := &Reader{text}
	result = read(r)
	if r.rest != "" {
		r.Fail()
	}
	return result, api.OK
}

// Fail ends the reading.
func (r *Reader) Fail() { panic(api.ErrForm) }

// Skip reads a word if it comes next, and reports whether it did.
func (r *Reader) Skip(word string) bool {
	rest, found := strings.CutPrefix(r.rest, word)
	r.rest = rest
	return found
}

// Must reads a word.
func (r *Reader) Must(word string) {
	if !r.Skip(word) {
		r.Fail()
	}
}

// UpToLast reads all up to where a word comes for the last time, and the word, and returns what is before it.
func (r *Reader) UpToLast(word string) string {
	at := strings.LastIndex(r.rest, word)
	if at < 0 {
		r.Fail()
	}
	before := r.rest[:at]
	r.rest = r.rest[at+len(word):]
	return before
}

// Rest reads all that is left.
func (r *Reader) Rest() string {
	rest := r.rest
	r.rest = ""
	return rest
}

// digit reads a digit if one comes next.
func (r *Reader) digit() (int, bool) {
	for d := range 10 {
		if r.Skip(strconv.Itoa(d)) {
			return d, true
		}
	}
	return 0, false
}

// Number reads a number that is not above most. A zero at the beginning is the whole number.
func (r *Reader) Number(most int) int {
	n, found := r.digit()
	if !found || n > most {
		r.Fail()
	}
	for n > 0 {
		d, more := r.digit()
		if !more {
			break
		}
		if n > (most-d)/10 {
			r.Fail()
		}
		n = 10*n + d
	}
	return n
}
