package copy

import (
	"slices"

	"duodecimo/api"
	"duodecimo/check"
	"duodecimo/pick"
	"duodecimo/quire"
)

// The parts of a case in which Check finds an error.
const (
	partNone   = 0
	partBook   = 1
	partItems  = 2
	partDoubts = 3
)

// leavesOf returns the leaves of a book, or its error or that it has too many.
func leavesOf(b api.QuBook) ([]api.QuLeaf, api.Errno) {
	leaves, e := quire.Leaves(b)
	if e != api.OK {
		return nil, e
	}
	if len(leaves) > api.MaxCpLeaves {
		return nil, api.ErrLong
	}
	return leaves, api.OK
}

// itemError returns a function that returns the error of an item of a copy whose book has so many leaves.
func itemError(leaves int) func(int, api.CpItem) api.Errno {
	return func(_ int, x api.CpItem) api.Errno {
		switch {
		case len(x.Could) > api.MaxCpCould:
			return api.ErrLong
		case !check.Within(0, leaves-1, x.Could...):
			return api.ErrNone
		case !check.Ascending(x.Could...):
			return api.ErrArg
		}
		return api.OK
	}
}

// doubtError returns a function that is given one item after the other, and returns ErrLong for each from the first doubtful one on that is one too many.
func doubtError() func(int, api.CpItem) api.Errno {
	doubts := 0
	return func(_ int, x api.CpItem) api.Errno {
		if isDoubtful(x) {
			doubts++
		}
		if doubts > api.MaxCpDoubts {
			return api.ErrLong
		}
		return api.OK
	}
}

// isDoubtful reports whether an item is doubtful.
func isDoubtful(x api.CpItem) bool { return len(x.Could) > 1 }

// binding is a case without an error that is looked at.
type binding struct {
	api.CpCase
	leaves []api.QuLeaf // of the book
	mates  map[int]int  // by the leaves that have one
}

// open returns the case to look at, or the error of the case.
func open(c api.CpCase) (binding, api.Errno) {
	if _, _, e := Check(c); e != api.OK {
		return binding{}, e
	}
	// Check has found no error in the book.
	leaves, _ := quire.Leaves(c.Book)
	b := binding{c, leaves, map[int]int{}}
	for leaf := range len(leaves) {
		if mate, e := quire.Mate(c.Book, leaf); e == api.OK {
			b.mates[leaf] = mate
		}
	}
	return b, api.OK
}

// doubts returns the items that are doubtful.
func (b binding) doubts() []int {
	return pick.Where(len(b.Items), func(item int) bool { return isDoubtful(b.Items[item]) })
}

// known returns the case with an item that is known to be some leaf.
func (b binding) known(item, leaf int) binding {
	b.Items = slices.Clone(b.Items)
	b.Items[item] = api.CpItem{Could: []int{leaf}}
	return b
}
