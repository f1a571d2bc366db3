// Package check contains what the layers use to find errors in their arguments.
package check

import "duodecimo/api"

// Within reports whether all numbers are from lo to hi.
func Within(lo, hi int, numbers ...int) bool {
	for _, n := range numbers {
		if n < lo || n > hi {
			return false
		}
	}
	return true
}

// Ascending reports whether each number is above the one before it.
func Ascending(numbers ...int) bool {
	for i, n := range numbers {
		if i > 0 && n <= numbers[i-1] {
			return false
		}
	}
	return true
}

// Spans returns ErrRange if an end of some span is not from lo to hi, otherwise ErrArg if the Lo of some span is above its Hi.
func Spans(lo, hi int, spans ...api.Span) api.Errno {
	for _, s := range spans {
		if !Within(lo, hi, s.Lo, s.Hi) {
			return api.ErrRange
		}
	}
	for _, s := range spans {
		if s.Lo > s.Hi {
			return api.ErrArg
		}
	}
	return api.OK
}

// First returns the index and the error of the first element with one, otherwise 0 and OK.
func First[T any](list []T, errorOf func(int, T) api.Errno) (int, api.Errno) {
	for i, x := range list {
		if e := errorOf(i, x); e != api.OK {
			return i, e
		}
	}
	return 0, api.OK
}

// List returns 0 and ErrLong if a list has fewer than lo or more than hi elements, otherwise the index and the error of the first element with one, otherwise 0 and OK.
func List[T any](lo, hi int, list []T, errorOf func(int, T) api.Errno) (int, api.Errno) {
	if !Within(lo, hi, len(list)) {
		return 0, api.ErrLong
	}
	return First(list, errorOf)
}

// Again returns a function that reports whether it was given the same value before.
func Again[K comparable]() func(K) bool {
	given := map[K]bool{}
	return func(k K) bool {
		before := given[k]
		given[k] = true
		return before
	}
}

// Names returns a function that is given one name of a list after the other: it returns ErrForm if this is no name, otherwise ErrTwice if it was there before.
func Names(isName func(string) bool) func(string) api.Errno {
	again := Again[string]()
	return func(name string) api.Errno {
		switch {
		case !isName(name):
			return api.ErrForm
		case again(name):
			return api.ErrTwice
		}
		return api.OK
	}
}
