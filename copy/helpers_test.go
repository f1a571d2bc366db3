package copy_test

import (
	"math"
	"math/rand"
	"slices"
	"sync"
	"testing"

	"duodecimo/api"
	"duodecimo/copy"
	"duodecimo/quire"
)

// Formulas of books: two small ones; the one of quire's chapter; books without any leaf, and with one; many changes; as many leaves as can be, in few gatherings and in many; and gatherings that have no leaf.
const (
	small   = "A-B4 $0"
	three   = "A-C4 $0"
	changed = "pi2 A-C8 D8(-3,=5,8+1) chi1 $4"
	nothing = "A1(-1) $0"
	single  = "A1 $1"
	put     = "A4(0+2,=1,1+1,4+1) B6(-2,-6) 2chi1(0+1,=1) $2"
	most    = "A-K12 $3"
	many    = "pi4 A-2E4 2F4 $2"
	gaps    = "A2 B2(-1,-2) C2 D1(-1) E4 $12"
)

// formulas are all of these.
func formulas() []string {
	return []string{small, three, changed, nothing, single, put, most, many, gaps}
}

// bookOf is the book of a formula.
func bookOf(formula string) api.QuBook {
	b, e := quire.Read(formula)
	if e != api.OK {
		panic(formula)
	}
	return b
}

// leavesOf are the leaves of a book.
func leavesOf(b api.QuBook) []api.QuLeaf {
	leaves, e := quire.Leaves(b)
	if e != api.OK {
		panic("no leaves")
	}
	return leaves
}

// no is what a strange item is.
const no = -1

// item is an item that can be these leaves.
func item(could ...int) api.CpItem { return api.CpItem{Could: could} }

// items are items that are known: each one a leaf, or strange.
func items(leaves ...int) []api.CpItem {
	var list []api.CpItem
	for _, n := range leaves {
		if n == no {
			list = append(list, item())
			continue
		}
		list = append(list, item(n))
	}
	return list
}

// upTo are the numbers below n.
func upTo(n int) []int {
	var list []int
	for i := range n {
		list = append(list, i)
	}
	return list
}

// caseOf is a case of a formula.
func caseOf(formula string, list ...api.CpItem) api.CpCase {
	return api.CpCase{Book: bookOf(formula), Items: list}
}

// bindingOf is a case of a formula whose items are known.
func bindingOf(formula string, leaves ...int) api.CpCase {
	return caseOf(formula, items(leaves...)...)
}

// wholeOf is a case of a copy of all leaves.
func wholeOf(formula string) api.CpCase {
	return bindingOf(formula, upTo(len(leavesOf(bookOf(formula))))...)
}

// example is K of the chapter's examples.
func example() api.CpCase {
	return caseOf(small, item(4), item(5), item(), item(0), item(1), item(3), item(1), item(6, 7))
}

// clonedItems are items that share no memory with other ones.
func clonedItems(list []api.CpItem) []api.CpItem {
	list = slices.Clone(list)
	for i := range list {
		list[i].Could = slices.Clone(list[i].Could)
	}
	return list
}

// cloned is a case that shares no memory with the other one.
func cloned(c api.CpCase) api.CpCase {
	c.Items = clonedItems(c.Items)
	c.Book.Gatherings = slices.Clone(c.Book.Gatherings)
	for i := range c.Book.Gatherings {
		c.Book.Gatherings[i].Changes = slices.Clone(c.Book.Gatherings[i].Changes)
	}
	return c
}

// sameItems reports whether items are the same.
func sameItems(a, b []api.CpItem) bool {
	return slices.EqualFunc(a, b, func(x, y api.CpItem) bool { return slices.Equal(x.Could, y.Could) })
}

// sameCase reports whether two cases are the same.
func sameCase(a, b api.CpCase) bool {
	return sameItems(a.Items, b.Items) && a.Book.Signed == b.Book.Signed && slices.EqualFunc(a.Book.Gatherings, b.Book.Gatherings, func(x, y api.QuGathering) bool {
		return x.Sig == y.Sig && x.Leaves == y.Leaves && slices.Equal(x.Changes, y.Changes)
	})
}

// sameFaults reports whether two faults are the same.
func sameFaults(a, b api.CpFaults) bool {
	return slices.Equal(a.Leaves, b.Leaves) && slices.Equal(a.Lost, b.Lost) && a.Pieces == b.Pieces && slices.Equal(a.Strange, b.Strange) && slices.Equal(a.Twice, b.Twice) && slices.Equal(a.Moved, b.Moved) && a.All == b.All
}

// doubtsOf are the doubtful items of a case.
func doubtsOf(c api.CpCase) []int {
	var list []int
	for i, x := range c.Items {
		if len(x.Could) > 1 {
			list = append(list, i)
		}
	}
	return list
}

// known is a case with an item that is known to be some leaf.
func known(c api.CpCase, i, leaf int) api.CpCase {
	c = cloned(c)
	c.Items[i] = item(leaf)
	return c
}

// truthsOf are all truths of a case, in their order, each one by the leaves of its items.
func truthsOf(c api.CpCase) [][]int {
	list := [][]int{{}}
	for _, x := range c.Items {
		could := x.Could
		if len(could) == 0 {
			could = []int{no}
		}
		var longer [][]int
		for _, l := range list {
			for _, leaf := range could {
				longer = append(longer, append(slices.Clone(l), leaf))
			}
		}
		list = longer
	}
	return list
}

// matesOf are, for all leaves of a book, their mates by the definition, or no.
func matesOf(b api.QuBook) []int {
	leaves := leavesOf(b)
	var list []int
	for n, l := range leaves {
		list = append(list, slices.IndexFunc(leaves, func(o api.QuLeaf) bool {
			return o != leaves[n] && o.Gathering == l.Gathering && o.Number+l.Number == b.Gatherings[l.Gathering].Leaves+1 && o.Kind == api.QuOwn && l.Kind == api.QuOwn
		}))
	}
	return list
}

// runsOf are the runs of a truth of a book with these leaves, each one by its items.
func runsOf(leaves []api.QuLeaf, told []int) [][]int {
	var runs [][]int
	before := no // the item behind which another one would be in the run
	for i, n := range told {
		if n == no || slices.Contains(told[:i], n) {
			continue
		}
		if before == no || leaves[told[before]].Gathering != leaves[n].Gathering || told[before] > n {
			runs = append(runs, nil)
		}
		runs[len(runs)-1] = append(runs[len(runs)-1], i)
		before = i
	}
	return runs
}

// canBeKept reports whether all these runs can be kept, leaf by leaf.
func canBeKept(told []int, runs [][]int) bool {
	greatest := no
	for _, r := range runs {
		for _, i := range r {
			if told[i] <= greatest {
				return false
			}
		}
		for _, i := range r {
			greatest = max(greatest, told[i])
		}
	}
	return true
}

// someOf are some of the runs, by the bits of a number.
func someOf(runs [][]int, bits int) [][]int {
	var list [][]int
	for i, r := range runs {
		if bits>>i&1 == 1 {
			list = append(list, r)
		}
	}
	return list
}

// begins are the items with which runs begin.
func begins(runs [][]int) []int {
	var list []int
	for _, r := range runs {
		list = append(list, r[0])
	}
	return list
}

// keeping are the items with which the runs begin that are kept: each run is tried kept and moved, behind each leaf that can be ahead of it.
func keeping(told []int, runs [][]int) []int {
	type place struct{ run, behind int }
	found := map[place][]int{}
	var best func(p place) []int
	best = func(p place) []int {
		if p.run == len(runs) {
			return nil
		}
		if list, ok := found[p]; ok {
			return list
		}
		list := best(place{p.run + 1, p.behind})
		r := runs[p.run]
		if told[r[0]] > p.behind {
			with := append([]int{r[0]}, best(place{p.run + 1, told[r[len(r)-1]]})...)
			if len(with) > len(list) || len(with) == len(list) && slices.Compare(with, list) < 0 {
				list = with
			}
		}
		found[p] = list
		return list
	}
	return best(place{0, no})
}

// model is what there is to tell of a truth, by the definitions.
type model struct {
	api.CpFaults
	loose, bound []int
}

// modelOf is the model of a truth of a book with these leaves and their mates.
func modelOf(leaves []api.QuLeaf, mates, told []int) model {
	var m model
	m.Leaves = told
	for n, mate := range mates {
		lost, alone := !slices.Contains(told, n), mate != no && !slices.Contains(told, mate)
		if !lost {
			m.bound = append(m.bound, slices.Index(told, n))
		}
		if !lost && alone {
			m.loose = append(m.loose, n)
		}
		if lost {
			m.Lost = append(m.Lost, n)
		}
		if lost && (!alone || n < mate) {
			m.Pieces++
		}
	}
	for i, n := range told {
		if n == no {
			m.Strange = append(m.Strange, i)
		} else if slices.Contains(told[:i], n) {
			m.Twice = append(m.Twice, i)
		}
	}
	runs := runsOf(leaves, told)
	keeps := keeping(told, runs)
	for _, i := range begins(runs) {
		if !slices.Contains(keeps, i) {
			m.Moved = append(m.Moved, i)
		}
	}
	m.All = m.Pieces + len(m.Strange) + len(m.Twice) + len(m.Moved)
	return m
}

// modelsOf are the models of all truths of a case, in their order.
func modelsOf(c api.CpCase) []model {
	leaves, mates := leavesOf(c.Book), matesOf(c.Book)
	var list []model
	for _, told := range truthsOf(c) {
		list = append(list, modelOf(leaves, mates, told))
	}
	return list
}

// fewestOf is the first one of the models with the fewest faults.
func fewestOf(models []model) model {
	best := models[0]
	for _, m := range models {
		if m.All < best.All {
			best = m
		}
	}
	return best
}

// spanOf is the least and the greatest number of faults of models.
func spanOf(models []model) api.Span {
	s := api.Span{Lo: math.MaxInt}
	for _, m := range models {
		s = api.Span{Lo: min(s.Lo, m.All), Hi: max(s.Hi, m.All)}
	}
	return s
}

// surely are the numbers that are in all lists of models, and those that are in some of them, ascending.
func surely(models []model, list func(model) []int) (sure, may []int) {
	for _, n := range upTo(api.MaxCpLeaves) {
		times := 0
		for _, m := range models {
			if slices.Contains(list(m), n) {
				times++
			}
		}
		if times == len(models) {
			sure = append(sure, n)
		}
		if times > 0 {
			may = append(may, n)
		}
	}
	return sure, may
}

// disturbed are leaves some of which were lost, are there again, were moved, or are from elsewhere.
func disturbed(r *rand.Rand, leaves []int) []int {
	list := slices.Clone(leaves)
	for range r.Intn(8) {
		if len(list) == 0 {
			return list
		}
		i := r.Intn(len(list))
		j := i + 1 + r.Intn(min(len(list)-i, 6))
		switch r.Intn(5) {
		case 0:
			list = slices.Delete(list, i, j)
		case 1:
			list = slices.Insert(list, r.Intn(len(list)+1), list[i])
		case 2:
			list = slices.Insert(list, i, no)
		default:
			part := slices.Clone(list[i:j])
			list = slices.Delete(list, i, j)
			list = slices.Insert(list, r.Intn(len(list)+1), part...)
		}
	}
	return list[:min(len(list), api.MaxCpItems)]
}

// doubted are items that are these leaves, of which up to so many are not told for certain, of a book of so many leaves.
func doubted(r *rand.Rand, told []int, leaves, doubts int) []api.CpItem {
	list := items(told...)
	for _, i := range r.Perm(len(told))[:min(doubts, len(told))] {
		if told[i] == no {
			continue
		}
		could := append([]int{told[i], min(told[i]+1, leaves-1), told[r.Intn(len(told))]}, r.Perm(leaves)...)
		could = could[:2+r.Intn(min(len(could)-1, api.MaxCpCould-1))]
		slices.Sort(could)
		list[i].Could = slices.DeleteFunc(slices.Compact(could), func(n int) bool { return n == no })
	}
	return list
}

// trueCase is a case, and which leaf each item is in truth.
type trueCase struct {
	api.CpCase
	told []int
}

// cases are cases without an error, always the same ones.
var cases = sync.OnceValue(func() []trueCase {
	r := rand.New(rand.NewSource(4))
	var list []trueCase
	for i := range 500 {
		b := bookOf(formulas()[i%len(formulas())])
		leaves := len(leavesOf(b))
		all := upTo(leaves)
		if r.Intn(5) == 0 {
			all = r.Perm(leaves)
		}
		if r.Intn(2) == 0 && leaves > 12 {
			at := r.Intn(leaves - 12)
			all = all[at : at+12]
		}
		told := disturbed(r, all)
		list = append(list, trueCase{api.CpCase{Book: b, Items: doubted(r, told, leaves, min(api.MaxCpDoubts, r.Intn(6)))}, told})
	}
	return list
})

// smallCases are those of the cases of which a truth has few runs, so that all choices of runs can be tried.
func smallCases() []trueCase {
	var list []trueCase
	for _, c := range cases() {
		few := true
		for _, told := range truthsOf(c.CpCase) {
			few = few && len(runsOf(leavesOf(c.Book), told)) <= 8
		}
		if few {
			list = append(list, c)
		}
	}
	return list
}

// faultsOf are the faults of a case without an error.
func faultsOf(t *testing.T, c api.CpCase) api.CpFaults {
	t.Helper()
	f, e := copy.Faults(c)
	if e != api.OK {
		t.Fatalf("Faults(%v): %d", c, e)
	}
	return f
}

// rangeOf is the range of a case without an error.
func rangeOf(t *testing.T, c api.CpCase) api.Span {
	t.Helper()
	s, e := copy.Range(c)
	if e != api.OK {
		t.Fatalf("Range(%v): %d", c, e)
	}
	return s
}

// toldOf are the leaves that are surely, and perhaps, what is asked, in a case without an error.
func toldOf(t *testing.T, c api.CpCase, ask func(api.CpCase) (sure, may []int, e api.Errno)) (sure, may []int) {
	t.Helper()
	sure, may, e := ask(c)
	if e != api.OK {
		t.Fatalf("Lost or Loose of %v: %d", c, e)
	}
	return sure, may
}

// boundOf are the items of a case without an error in the order in which they should be bound.
func boundOf(t *testing.T, c api.CpCase) []int {
	t.Helper()
	list, e := copy.Bound(c)
	if e != api.OK {
		t.Fatalf("Bound(%v): %d", c, e)
	}
	return list
}

// within reports whether each number of a list is in another one.
func within(list, other []int) bool {
	return !slices.ContainsFunc(list, func(n int) bool { return !slices.Contains(other, n) })
}

// numbers are ints far beyond all limits, and about some.
func numbers(limits ...int) []int {
	list := []int{math.MinInt, math.MinInt + 1, -1, math.MaxInt - 1, math.MaxInt}
	for _, n := range limits {
		list = append(list, n-1, n, n+1)
	}
	return list
}
