package made_test

import (
	"slices"

	"duodecimo/api"
)

// kindOf is the kind of a copy.
func kindOf(c api.MaCopy) int {
	of := map[int]int{}
	for _, kind := range c.Has {
		of[kind]++
	}
	if of[2] > of[1] {
		return 2
	}
	return 1
}

// isWhole reports whether a copy is whole.
func isWhole(c api.MaCopy) bool {
	return !slices.Contains(c.Has, 0) && len(slices.Compact(slices.Clone(c.Has))) == 1
}

// plannedOf is what a plan does.
func plannedOf(s api.MaSet, plan [][]int) planned {
	p := planned{plan: plan}
	for _, c := range after(s, plan).Copies {
		if isWhole(c) {
			p.whole++
		}
	}
	for i := range s.Copies {
		for k := range s.Leaves {
			if plan[i][k] != i && plan[i][k] != none {
				p.moved++
			}
			if s.Leaves[k].Mate > k && isCut(s, plan, i, k, s.Leaves[k].Mate) {
				p.cut++
			}
		}
	}
	return p
}

// after is a set after a plan.
func after(s api.MaSet, plan [][]int) api.MaSet {
	x := cloned(s)
	for i := range s.Copies {
		for k, from := range plan[i] {
			x.Copies[i].Has[k] = 0
			if from != none {
				x.Copies[i].Has[k] = s.Copies[from].Has[k]
			}
		}
	}
	return x
}

// isCut reports whether a plan cuts a pair of leaves of a copy.
func isCut(s api.MaSet, plan [][]int, copy, a, b int) bool {
	had := s.Copies[copy].Has
	if had[a] == 0 || had[b] == 0 {
		return false
	}
	return slices.ContainsFunc(plan, func(row []int) bool { return (row[a] == copy) != (row[b] == copy) })
}

// isAllowed reports whether copies that a plan does not make whole keep all that they do not give, and get nothing.
func isAllowed(s api.MaSet, plan [][]int) bool {
	for i, c := range after(s, plan).Copies {
		for k, from := range plan[i] {
			if isWhole(c) || from == i {
				continue
			}
			gave := slices.ContainsFunc(plan, func(row []int) bool { return row[k] == i })
			if from != none || s.Copies[i].Has[k] != 0 && !gave {
				return false
			}
		}
	}
	return true
}

// better reports whether a plan is better than another one, or as good, and comes first.
func better(p, q planned) bool {
	switch {
	case p.whole != q.whole:
		return p.whole > q.whole
	case p.moved != q.moved:
		return p.moved < q.moved
	case p.cut != q.cut:
		return p.cut < q.cut
	}
	return slices.CompareFunc(p.plan, q.plan, slices.Compare[[]int]) < 0
}

// columns are all ways to say from which copy each copy gets a leaf.
func columns(s api.MaSet, leaf int) [][]int {
	all := [][]int{nil}
	for range s.Copies {
		var longer [][]int
		for _, column := range all {
			longer = append(longer, append(slices.Clone(column), none))
			for from, c := range s.Copies {
				if c.Has[leaf] != 0 && !slices.Contains(column, from) {
					longer = append(longer, append(slices.Clone(column), from))
				}
			}
		}
		all = longer
	}
	return all
}

// emptyPlan is a plan by which no copy has anything.
func emptyPlan(s api.MaSet) [][]int {
	var plan [][]int
	for range s.Copies {
		plan = append(plan, alone(len(s.Leaves)))
	}
	return plan
}

// cloneRows is a plan that shares no memory with the other one.
func cloneRows(plan [][]int) [][]int {
	plan = slices.Clone(plan)
	for i, row := range plan {
		plan[i] = slices.Clone(row)
	}
	return plan
}

// manyPlans is how many plans there are.
func manyPlans(s api.MaSet) int {
	many := 1
	for k := range s.Leaves {
		many *= len(columns(s, k))
	}
	return many
}

// plans visits all plans that there are, of a set that has not too many. The plan is used again.
func plans(s api.MaSet, visit func(plan [][]int)) {
	plan := emptyPlan(s)
	var next func(leaf int)
	next = func(leaf int) {
		if leaf == len(s.Leaves) {
			visit(plan)
			return
		}
		for _, column := range columns(s, leaf) {
			for i, from := range column {
				plan[i][leaf] = from
			}
			next(leaf + 1)
		}
	}
	next(0)
}

// bestOfAll is the best one of all plans that there are.
func bestOfAll(s api.MaSet) planned {
	var best planned
	plans(s, func(plan [][]int) {
		if p := plannedOf(s, plan); isAllowed(s, plan) && (best.plan == nil || better(p, best)) {
			best = p
			best.plan = cloneRows(plan)
		}
	})
	return best
}

// fillings are all ways by which copies that are made whole of a kind (0: of none) get leaves that are of no pair with others.
func fillings(s api.MaSet, kinds, leaves []int) [][][]int {
	all := [][][]int{emptyPlan(s)}
	for _, leaf := range leaves {
		var more [][][]int
		for _, column := range columns(s, leaf) {
			if !fills(s, kinds, leaf, column) {
				continue
			}
			for _, plan := range all {
				plan = cloneRows(plan)
				for i, from := range column {
					plan[i][leaf] = from
				}
				more = append(more, plan)
			}
		}
		all = more
	}
	return all
}

// fills reports whether copies that are made whole of a kind get a leaf of this kind, and all others keep theirs, if they do not give it.
func fills(s api.MaSet, kinds []int, leaf int, column []int) bool {
	for i, from := range column {
		has := s.Copies[i].Has[leaf]
		switch {
		case kinds[i] != 0 && (from == none || s.Copies[from].Has[leaf] != kinds[i]):
			return false
		case kinds[i] == 0 && from != i && (from != none || has != 0 && !slices.Contains(column, i)):
			return false
		}
	}
	return true
}

// groups are the leaves of a set, those that are mates together.
func groups(s api.MaSet) [][]int {
	var all [][]int
	for k, l := range s.Leaves {
		switch {
		case l.Mate == none:
			all = append(all, list(k))
		case l.Mate > k:
			all = append(all, list(k, l.Mate))
		}
	}
	return all
}

// bestOf is the best plan by which these copies are made whole, if there is one: as leaves of different pairs have nothing to do with each other, each pair is looked at for itself.
func bestOf(s api.MaSet, kinds []int) (planned, bool) {
	plan := emptyPlan(s)
	for _, group := range groups(s) {
		all := fillings(s, kinds, group)
		if len(all) == 0 {
			return planned{}, false
		}
		var best planned
		for i, filling := range all {
			p := plannedOf(s, filling)
			p.whole = 0
			if i == 0 || better(p, best) {
				best = p
			}
		}
		for i := range plan {
			for _, k := range group {
				plan[i][k] = best.plan[i][k]
			}
		}
	}
	return plannedOf(s, plan), true
}

// bestByKinds is the best plan: that of all ways to say which copies are made whole, of which kind.
func bestByKinds(s api.MaSet) planned {
	var best planned
	for _, kinds := range allKinds(len(s.Copies)) {
		if p, is := bestOf(s, kinds); is && (best.plan == nil || better(p, best)) {
			best = p
		}
	}
	return best
}

// allKinds are all ways to say of which kind each of so many copies is made whole, or of none.
func allKinds(copies int) [][]int {
	all := [][]int{nil}
	for range copies {
		var longer [][]int
		for _, kinds := range all {
			for kind := range api.MaxMaKinds + 1 {
				longer = append(longer, append(slices.Clone(kinds), kind))
			}
		}
		all = longer
	}
	return all
}

// missingOf is what Missing must say.
func missingOf(c api.MaCopy) missed {
	m := missed{kind: kindOf(c)}
	for k, kind := range c.Has {
		if kind == 0 {
			m.missing = append(m.missing, k)
		}
	}
	return m
}

// donorsOf is what Donors must say.
func donorsOf(s api.MaSet, copy, leaf int) given {
	var g given
	for i, c := range s.Copies {
		if i != copy && c.Has[leaf] == kindOf(s.Copies[copy]) {
			g.copies = append(g.copies, i)
		}
	}
	return g
}

// mostOf is what Most must say.
func mostOf(s api.MaSet, kind int) rarest {
	var all []int
	for k := range s.Leaves {
		n := 0
		for _, c := range s.Copies {
			if c.Has[k] == kind {
				n++
			}
		}
		all = append(all, n)
	}
	least := slices.Min(all)
	return rarest{least, slices.Index(all, least), api.OK}
}

// worthOf is what Worth must say: what is lost is as many pence as are not below it.
func worthOf(s api.MaSet, copy int) valued {
	c := s.Copies[copy]
	worth := s.Price
	for k, kind := range c.Has {
		lost := s.Price * s.Leaves[k].Share // a thousand for a penny
		switch kind {
		case kindOf(c):
			lost = 0
		case 0:
			lost *= 2
		}
		pence := lost / 2000
		for 2000*pence < lost {
			pence++
		}
		worth -= pence
	}
	if worth < 0 {
		worth = 0
	}
	return valued{worth, api.OK}
}

// modelled is what all functions with a set must say.
func modelled(s api.MaSet) told {
	var x told
	for i, c := range s.Copies {
		x.missing = append(x.missing, missingOf(c))
		x.donors = append(x.donors, nil)
		for k := range s.Leaves {
			x.donors[i] = append(x.donors[i], donorsOf(s, i, k))
		}
		x.worth = append(x.worth, worthOf(s, i))
	}
	for kind := range api.MaxMaKinds {
		x.most = append(x.most, mostOf(s, kind+1))
	}
	x.whole = bestByKinds(s)
	return x
}

// like is a copy that leaves can be of: its kind, and how tall it is.
type like struct{ kind, tall int }

// ofCopy reports whether a leaf can be of such a copy.
func ofCopy(x api.MaSeen, c like) bool {
	return (x.Kind == 0 || x.Kind == c.kind) && x.Tall.Lo <= c.tall && c.tall <= x.Tall.Hi
}

// likes are all copies that there can be, but for those that are higher or lower than all leaves.
func likes(h api.MaHand) []like {
	lo, hi := api.MaxMaTall, 1
	for _, x := range h.Leaves {
		lo, hi = min(lo, x.Tall.Lo), max(hi, x.Tall.Hi)
	}
	var all []like
	for tall := lo; tall <= hi; tall++ {
		all = append(all, like{1, tall}, like{2, tall})
	}
	return all
}

// handModel says of a copy in the hand which leaves can be of one copy, by their bits.
type handModel struct {
	api.MaHand
	can []bool
}

// handModelOf is the model of a copy in the hand.
func handModelOf(h api.MaHand) handModel {
	m := handModel{h, make([]bool, 1<<len(h.Leaves))}
	done := map[int]bool{}
	for _, c := range likes(h) {
		of := 0
		for k, x := range h.Leaves {
			if ofCopy(x, c) {
				of |= 1 << k
			}
		}
		if done[of] {
			continue
		}
		done[of] = true
		for some := range m.can {
			m.can[some] = m.can[some] || some&of == some
		}
	}
	return m
}

// together reports whether leaves can be of one copy.
func (m handModel) together(leaves []int) bool {
	some := 0
	for _, k := range leaves {
		some |= 1 << k
	}
	return m.can[some]
}

// others are all leaves but some.
func (m handModel) others(some []int) []int { return without(upTo(len(m.Leaves)), some) }

// accounts reports whether leaves account for the copy.
func (m handModel) accounts(some []int) bool { return m.together(m.others(some)) }

// fewest are all lists with the fewest leaves that account for the copy, in their order.
func (m handModel) fewest() [][]int {
	var best [][]int
	for _, some := range allParts()[len(m.Leaves)] {
		if !m.accounts(some) || len(best) > 0 && len(some) > len(best[0]) {
			continue
		}
		if len(best) > 0 && len(some) < len(best[0]) {
			best = nil
		}
		best = append(best, some)
	}
	return best
}

// sure is what Sure must say.
func (m handModel) sure() sure {
	var x sure
	for k := range m.Leaves {
		in := 0
		for _, some := range m.fewest() {
			if slices.Contains(some, k) {
				in++
			}
		}
		if in == len(m.fewest()) {
			x.must = append(x.must, k)
		}
		if in > 0 {
			x.may = append(x.may, k)
		}
	}
	return x
}

// sources is what Sources must say: of all ways to number the leaves the first one with the fewest numbers.
func (m handModel) sources() sourced {
	best := sourced{many: len(m.Leaves) + 1}
	var next func(given []int, many int)
	next = func(given []int, many int) {
		if len(given) == len(m.Leaves) {
			if many < best.many {
				best = sourced{slices.Clone(given), many, api.OK}
			}
			return
		}
		for n := range many + 1 {
			same := list(len(given))
			for k, of := range given {
				if of == n {
					same = append(same, k)
				}
			}
			if m.together(same) {
				next(append(slices.Clone(given), n), max(many, n+1))
			}
		}
	}
	next(nil, 0)
	return best
}

// proof is what Proof must say.
func (m handModel) proof(told []int) proved {
	if m.accounts(told) {
		return proved{e: api.ErrZero}
	}
	for a := range m.Leaves {
		for b := range m.Leaves {
			if a < b && !slices.Contains(told, a) && !slices.Contains(told, b) && !m.together(list(a, b)) {
				return proved{a, b, api.OK}
			}
		}
	}
	return proved{e: api.ErrDown} // there are always two
}

// tall is what Tall must say.
func (m handModel) tall(told []int) measured {
	if !m.accounts(told) || len(told) == len(m.Leaves) {
		return measured{e: api.ErrZero}
	}
	var x measured
	for n := 1; n <= api.MaxMaTall; n++ {
		of := !slices.ContainsFunc(m.others(told), func(k int) bool { return n < m.Leaves[k].Tall.Lo || n > m.Leaves[k].Tall.Hi })
		if of && x.span.Lo == 0 {
			x.span.Lo = n
		}
		if of {
			x.span.Hi = n
		}
	}
	return x
}

// modelledHand is what all functions with a copy in the hand must say.
func modelledHand(h api.MaHand) toldHand {
	m := handModelOf(h)
	x := toldHand{foreign: given{m.fewest()[0], api.OK}, sure: m.sure(), sources: m.sources()}
	for _, some := range allParts()[len(h.Leaves)] {
		x.proof = append(x.proof, m.proof(some))
		x.tall = append(x.tall, m.tall(some))
	}
	return x
}
