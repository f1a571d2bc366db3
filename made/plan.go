package made

import (
	"iter"
	"slices"

	"duodecimo/api"
	"duodecimo/pick"
)

// plan says from which copy each copy gets each leaf; api.MaNone, if it has none then.
type plan [api.MaxMaCopies][api.MaxMaLeaves]int

// want is a leaf of a kind that a copy has to get.
type want struct {
	copy int
	held
}

// many returns how many copies of each kind are made whole at most, and how many of none. The kinds take nothing from each other: a copy of one needs no leaf of another one, and as no copy has a leaf in two kinds, there are copies enough for all.
func (s set) many() [api.MaxMaKinds + 1]int {
	many := [api.MaxMaKinds + 1]int{kindNone: len(s.Copies)}
	for kind := kindFirst; kind <= api.MaxMaKinds; kind++ {
		many[kind], _ = s.most(kind)
		many[kindNone] -= many[kind]
	}
	return many
}

// whole returns how many copies can be made whole at most.
func (s set) whole() int { return len(s.Copies) - s.many()[kindNone] }

// aims yields all ways to say of each copy of which kind it is made whole, or none, by which as many are made whole as can be.
func (s set) aims() iter.Seq[[]int] {
	many := s.many()
	return pick.Lists(len(s.Copies), func(kinds []int) []int {
		left := many
		for _, kind := range kinds {
			left[kind]--
		}
		return pick.Where(len(left), func(kind int) bool { return left[kind] > 0 })
	})
}

// kept returns the plan by which all copies keep what they have.
func (s set) kept() plan {
	var p plan
	for i, c := range s.Copies {
		for leaf, has := range c.Has {
			p[i][leaf] = i
			if has == kindNone {
				p[i][leaf] = api.MaNone
			}
		}
	}
	return p
}

// wants returns the leaves that copies have to get.
func (s set) wants(kinds []int) []want {
	var wants []want
	for i, kind := range kinds {
		for leaf, has := range s.Copies[i].Has {
			if kind != kindNone && has != kind {
				wants = append(wants, want{i, held{leaf, kind}})
			}
		}
	}
	return wants
}

// givers returns the copies that can give what is wanted, ascending: they need not keep it, and have not given it yet.
func (s set) givers(p plan, kinds []int, w want) []int {
	return slices.DeleteFunc(s.donors(w.copy, w.held), func(from int) bool {
		return kinds[from] == w.kind || s.gave(p, from, w.leaf)
	})
}

// gave reports whether by a plan a copy gives a leaf to another one.
func (s set) gave(p plan, from, leaf int) bool {
	for i := range s.Copies {
		if i != from && p[i][leaf] == from {
			return true
		}
	}
	return false
}

// given returns a plan by which, besides, a copy gives what is wanted; it has it no more, unless it got another one for it.
func (p plan) given(from int, w want) plan {
	if p[from][w.leaf] == from {
		p[from][w.leaf] = api.MaNone
	}
	p[w.copy][w.leaf] = from
	return p
}

// plans yields all best plans, and others that make as many copies whole. No leaf is moved to a copy that has it in the kind of which it is made whole.
func (s set) plans() iter.Seq[plan] {
	return func(yield func(plan) bool) {
		fewest := len(s.Copies) * len(s.Leaves)
		for kinds := range s.aims() {
			wants := s.wants(kinds)
			if len(wants) > fewest {
				continue // just as many leaves are moved as are wanted
			}
			fewest = len(wants)
			var give func(plan, []want) bool
			give = func(p plan, wants []want) bool {
				if len(wants) == 0 {
					return yield(p)
				}
				for _, from := range s.givers(p, kinds, wants[0]) {
					if !give(p.given(from, wants[0]), wants[1:]) {
						return false
					}
				}
				return true
			}
			if !give(s.kept(), wants) {
				return
			}
		}
	}
}

// moved returns how many leaves come from another copy.
func (s set) moved(p plan) int {
	many := 0
	for i := range s.Copies {
		for _, from := range p[i][:len(s.Leaves)] {
			if from != i && from != api.MaNone {
				many++
			}
		}
	}
	return many
}

// cut returns how many pairs of leaves are cut.
func (s set) cut(p plan) int {
	many := 0
	for a, l := range s.Leaves {
		b := l.Mate
		if b < a { // it has no mate, or the pair was counted with its mate
			continue
		}
		for i, c := range s.Copies {
			if c.Has[a] != kindNone && c.Has[b] != kindNone && s.parts(p, i, a, b) {
				many++
			}
		}
	}
	return many
}

// parts reports whether by a plan some copy gets just one of two leaves of a copy.
func (s set) parts(p plan, copy, a, b int) bool {
	for i := range s.Copies {
		if (p[i][a] == copy) != (p[i][b] == copy) {
			return true
		}
	}
	return false
}

// cost is a number of which better plans have less.
type cost struct{ of func(plan) int }

// costs returns the costs of plans that make as many copies whole; the first one counts first.
func (s set) costs() []cost { return []cost{{s.moved}, {s.cut}} }

// best returns the first one of the best plans. There is always one, as copies that nothing can be done for keep what they have.
func (s set) best() plan {
	costs := s.costs()
	best, _ := pick.Best(s.plans(), func(p, q plan) bool { return p.ahead(q, costs) })
	return best
}

// ahead reports whether a plan has less of the first cost in which it differs from another one, or, if it differs in none, comes first.
func (p plan) ahead(other plan, costs []cost) bool {
	for _, c := range costs {
		if of, others := c.of(p), c.of(other); of != others {
			return of < others
		}
	}
	for i, row := range p {
		if row != other[i] {
			return slices.Compare(row[:], other[i][:]) < 0
		}
	}
	return false
}

// rows returns a plan as lists, one for each copy.
func (s set) rows(p plan) [][]int {
	var rows [][]int
	for i := range s.Copies {
		row := make([]int, len(s.Leaves))
		copy(row, p[i][:])
		rows = append(rows, row)
	}
	return rows
}
