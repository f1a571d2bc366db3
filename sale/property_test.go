package sale_test

import (
	"math/rand"
	"slices"
	"testing"

	"duodecimo/api"
)

// mostOf is what a bidder gives for a lot at most, and where the bid is; 0 and -1, if there is none.
func mostOf(s api.SaSale, bidder, lot int) (most, at int) {
	at = slices.IndexFunc(s.Bids, func(b api.SaBid) bool { return b.Bidder == bidder && b.Lot == lot })
	if at < 0 {
		return 0, at
	}
	return s.Bids[at].Most, at
}

// isPrice reports whether a price is one of those of a lot, by Next.
func isPrice(s api.SaSale, lot, price int) bool {
	p := s.Lots[lot].Reserve
	for p < price {
		p = next(s, p).price
	}
	return p == price
}

// P12.2, P12.7: no lot is sold below its Reserve, above the most of its buyer, or to somebody while another one who bids would give the price behind it; nor is one left for which somebody gives the Reserve.
func TestWithin(t *testing.T) {
	t.Parallel()
	r := seed(127)
	soldLots, leftLots, below := 0, 0, 0
	asks(func(q question, x told) {
		for n, ring := range ringsOf(q.SaSale) {
			if len(x.sell[n].results) != len(q.Lots) {
				t.Fatalf("%v: Sell of %v = %v", q.SaSale, ring, x.sell[n])
			}
			for i, got := range x.sell[n].results {
				if got == nobody() {
					leftLots++
					if slices.ContainsFunc(q.Bids, func(b api.SaBid) bool { return b.Lot == i && b.Most >= q.Lots[i].Reserve }) {
						t.Errorf("%v: Sell of %v = %v, the lot %d is left", q.SaSale, ring, x.sell[n], i)
					}
					continue
				}
				soldLots++
				most, _ := mostOf(q.SaSale, got.Bidder, i)
				if got.Price < q.Lots[i].Reserve || got.Price > most {
					t.Errorf("%v: Sell of %v = %v, the lot %d", q.SaSale, ring, x.sell[n], i)
				}
				behind := next(q.SaSale, got.Price).price
				for _, b := range bidding(q.SaSale, i, ring) {
					if b.Bidder != got.Bidder && (b.Most >= behind || b.Most > most) {
						t.Errorf("%v: Sell of %v = %v, but %v", q.SaSale, ring, x.sell[n], b)
					}
					if b.Bidder != got.Bidder && b.Most >= got.Price {
						below++
					}
				}
				if r.Intn(20) == 0 && got.Price < 2000 && !isPrice(q.SaSale, i, got.Price) {
					t.Errorf("%v: Sell of %v = %v, no price of the lot %d", q.SaSale, ring, x.sell[n], i)
				}
			}
		}
	})
	if soldLots < 20000 || leftLots < 5000 || below < 2000 {
		t.Errorf("just %d sold, %d left, %d not above all others", soldLots, leftLots, below)
	}
}

// contains reports whether a list has all numbers of another one.
func contains(numbers, some []int) bool { return len(without(some, numbers)) == 0 }

// P12.8: with any ring each lot has the same buyer, for no greater price; with more members no price is greater; who is not in the ring pays no more.
func TestRing(t *testing.T) {
	t.Parallel()
	less, asMuch := 0, 0
	asks(func(q question, x told) {
		all := ringsOf(q.SaSale)
		for n, ring := range all {
			for m, other := range all {
				if n == m || !contains(other, ring) {
					continue
				}
				for i, got := range x.sell[m].results {
					alone := x.sell[n].results[i]
					if got.Bidder != alone.Bidder || got.Price > alone.Price {
						t.Errorf("%v: Sell of %v = %v, of %v %v", q.SaSale, ring, x.sell[n], other, x.sell[m])
					}
					if got.Price < alone.Price {
						less++
					} else {
						asMuch++
					}
				}
				for _, b := range without(upTo(len(q.Bidders)), other) {
					if x.account[m][0].bidders[b] > x.account[n][0].bidders[b] {
						t.Errorf("%v: Account of %v = %v, of %v %v", q.SaSale, ring, x.account[n][0], other, x.account[m][0])
					}
				}
			}
		}
	})
	if less < 20000 || asMuch < 20000 {
		t.Errorf("just %d sold for less, %d for as much", less, asMuch)
	}
}

// isReturned reports whether a lot is among those that were returned.
func isReturned(returns []api.SaReturn, lot int) bool {
	return slices.ContainsFunc(returns, func(r api.SaReturn) bool { return r.Lot == lot })
}

// P12.9: what all bidders pay is what all sellers get and the house keeps, to the penny; no seller gets less than nothing, or more than the prices, and no bidder pays less than these.
func TestAccounts(t *testing.T) {
	t.Parallel()
	kept, backs := 0, 0
	asks(func(q question, x told) {
		for n, ring := range ringsOf(q.SaSale) {
			for k, returns := range q.returns {
				a := x.account[n][k]
				if a.e != api.OK {
					continue
				}
				if len(a.bidders) != len(q.Bidders) || len(a.sellers) != len(q.Sellers) {
					t.Fatalf("%v: Account of %v, %v = %v", q.SaSale, ring, returns, a)
				}
				paid, got := make([]int, len(q.Bidders)), make([]int, len(q.Sellers))
				for i, r := range x.sell[n].results {
					if r.Bidder != api.SaNobody && !isReturned(returns, i) {
						paid[r.Bidder] += r.Price
						got[q.Lots[i].Seller] += r.Price
					}
				}
				isLess := func(of, than []int) bool {
					return slices.ContainsFunc(upTo(len(of)), func(i int) bool { return of[i] < than[i] })
				}
				if sum(a.bidders) != sum(a.sellers)+a.house || isLess(a.bidders, paid) || isLess(got, a.sellers) || isLess(a.sellers, make([]int, len(got))) {
					t.Errorf("%v: Account of %v, %v = %v", q.SaSale, ring, returns, a)
				}
				if a.house > 0 {
					kept++
				}
				backs += len(returns)
			}
		}
	})
	if kept < 20000 || backs < 20000 {
		t.Errorf("just %d times the house keeps something, %d lots returned", kept, backs)
	}
}

// P12.10: shares are, together, what the ring saves of the lots that its members buy; no two differ by more than a penny, and none is below 0.
func TestShares(t *testing.T) {
	t.Parallel()
	saving, differing := 0, 0
	asks(func(q question, x told) {
		for n, ring := range ringsOf(q.SaSale) {
			saved := 0
			for i, r := range x.sell[n].results {
				if slices.Contains(ring, r.Bidder) {
					saved += x.sell[0].results[i].Price - r.Price
				}
			}
			shares := x.share[n].numbers
			if len(shares) != len(ring) || sum(shares) != saved || x.share[n].e != api.OK {
				t.Errorf("%v: Share of %v = %v, not %d", q.SaSale, ring, x.share[n], saved)
			}
			if len(shares) == 0 {
				continue
			}
			if first, last := shares[0], shares[len(shares)-1]; first-last > 1 || last < 0 || !slices.IsSortedFunc(shares, func(a, b int) int { return b - a }) {
				t.Errorf("%v: Share of %v = %v", q.SaSale, ring, x.share[n])
			} else if first > last {
				differing++
			}
			if saved > 0 {
				saving++
			}
		}
	})
	if saving < 2000 || differing < 1000 {
		t.Errorf("just %d save something, %d have shares that differ", saving, differing)
	}
}

// has reports whether a ring is in a list of them.
func has(rings [][]int, ring []int) bool {
	return slices.ContainsFunc(rings, func(r []int) bool { return slices.Equal(r, ring) })
}

// P12.5, P12.11: a catalogue that was told of any ring, of all lots or some, with prices that are exact or wider, is right with it: it is one of Rings, which are in order; its members are among those who may be, and all who must be are its members; no entry is wrong.
func TestTrue(t *testing.T) {
	t.Parallel()
	r := seed(1211)
	must, may, many := 0, 0, 0
	asks(func(q question, x told) {
		for n, ring := range ringsOf(q.SaSale) {
			if r.Intn(3) > 0 {
				continue
			}
			lots := upTo(len(q.Lots))
			if r.Intn(2) == 0 {
				lots = somePart(r, lots)
			}
			l := trueOf(r, x.sell[n].results, lots, oneOf(r, 0, 0, 3, 40))
			s, m, w := rings(q.SaSale, l), members(q.SaSale, l), wrong(q.SaSale, l)
			inOrder := slices.DeleteFunc(slices.Clone(ringsOf(q.SaSale)), func(ring []int) bool { return !has(s.rings, ring) })
			if s.e != api.OK || !has(s.rings, ring) || !alike(s.rings, inOrder) {
				t.Errorf("%v: Rings of %v, told of %v, = %v", q.SaSale, l, ring, s)
			}
			if m.e != api.OK || !contains(m.may, ring) || !contains(ring, m.must) {
				t.Errorf("%v: Members of %v, told of %v, = %v", q.SaSale, l, ring, m)
			}
			if w.e != api.OK || len(w.numbers) > 0 {
				t.Errorf("%v: Wrong of %v, told of %v, = %v", q.SaSale, l, ring, w)
			}
			must, may = must+len(m.must), may+len(m.may)
			if len(s.rings) > 1 {
				many++
			}
		}
	})
	if must < 2000 || may < 20000 || many < 2000 {
		t.Errorf("just %d members must be, %d may be; %d times there are several rings", must, may, many)
	}
}

// P12.5: Members are in all of Rings, and in some; both say that there is none for the same catalogues, of which some entry is wrong.
func TestMembers(t *testing.T) {
	t.Parallel()
	none, found := 0, 0
	asks(func(q question, x told) {
		for i, l := range q.catalogues {
			s, m, w := x.rings[i], x.members[i], x.wrong[i]
			if s.e != m.e || w.e != api.OK || (s.e == api.ErrZero) != (len(w.numbers) > 0) || (s.e == api.ErrZero) != (len(s.rings) == 0) {
				t.Errorf("%v: %v: Rings = %v, Members = %v, Wrong = %v", q.SaSale, l, s, m, w)
			}
			if s.e != api.OK {
				none++
				continue
			}
			found++
			for b := range q.Bidders {
				in := 0
				for _, ring := range s.rings {
					if slices.Contains(ring, b) {
						in++
					}
				}
				if slices.Contains(m.must, b) != (in == len(s.rings)) || slices.Contains(m.may, b) != (in > 0) {
					t.Errorf("%v: %v: Rings = %v, Members = %v", q.SaSale, l, s, m)
				}
			}
			if !slices.IsSorted(m.must) || !slices.IsSorted(m.may) {
				t.Errorf("%v: %v: Members = %v", q.SaSale, l, m)
			}
		}
	})
	if none < 2000 || found < 2000 {
		t.Errorf("just %d without a ring, %d with some", none, found)
	}
}

// P12.12: without the entries of Wrong there is a ring; without any fewer there is none, nor without as many that come before.
func TestFewest(t *testing.T) {
	t.Parallel()
	fewer, before := 0, 0
	asks(func(q question, x told) {
		for i, l := range q.catalogues {
			w := x.wrong[i].numbers
			if s := rings(q.SaSale, left(l, w)); s.e != api.OK {
				t.Errorf("%v: %v: Wrong = %v, but without them Rings = %v", q.SaSale, l, w, s)
			}
			if len(w) == 0 {
				continue
			}
			for _, places := range shortFirst(upTo(len(l))) {
				if slices.Equal(places, w) {
					break
				}
				if s := rings(q.SaSale, left(l, places)); s.e != api.ErrZero {
					t.Errorf("%v: %v: Wrong = %v, but without %v Rings = %v", q.SaSale, l, w, places, s)
				}
				if len(places) < len(w) {
					fewer++
				} else {
					before++
				}
			}
		}
	})
	if fewer < 5000 || before < 2000 {
		t.Errorf("just %d lists are shorter, %d come before", fewer, before)
	}
}

// P12.12: of a true catalogue of which some entries were changed Wrong names no more than these.
func TestChanged(t *testing.T) {
	t.Parallel()
	r := seed(1212)
	as, fewer := 0, 0
	asks(func(q question, x told) {
		for range 4 {
			n := r.Intn(len(x.sell))
			l := trueOf(r, x.sell[n].results, upTo(len(q.Lots)), oneOf(r, 0, 2))
			other := changed(r, l, oneOf(r, 3, 50, 1000))
			many := 0
			for i, entry := range other {
				if entry != l[i] {
					many++
				}
			}
			w := wrong(q.SaSale, other)
			switch {
			case w.e != api.OK || len(w.numbers) > many:
				t.Errorf("%v: %v became %v: Wrong = %v", q.SaSale, l, other, w)
			case many > 0 && len(w.numbers) == many:
				as++
			case many > 0:
				fewer++
			}
		}
	})
	if as < 2000 || fewer < 500 {
		t.Errorf("just %d times as many are wrong, %d times fewer", as, fewer)
	}
}

// giveMore is a sale in which some bid is greater, and which one it is.
func giveMore(r *rand.Rand, s api.SaSale) (api.SaSale, int) {
	s = cloned(s)
	i := r.Intn(len(s.Bids))
	most := &s.Bids[i].Most
	*most = min(api.MaxSaPrice, *most+1+r.Intn(oneOf(r, 1, 10, 100, api.MaxSaPrice)))
	return s, i
}

// P12.13: if, without a ring, a bidder gives more, no lot is sold for less, and a buyer who gives more still buys.
func TestGivesMore(t *testing.T) {
	t.Parallel()
	r := seed(1213)
	more, kept, passed := 0, 0, 0
	asks(func(q question, x told) {
		if len(q.Bids) == 0 {
			return
		}
		for range 12 {
			s, i := giveMore(r, q.SaSale)
			b, now := s.Bids[i], sell(s, nil).results
			for k, was := range x.sell[0].results {
				if now[k].Price < was.Price || k != b.Lot && now[k] != was {
					t.Errorf("%v: Sell = %v; with more %v: %v", q.SaSale, x.sell[0], b, now)
				}
				if now[k].Price > was.Price {
					more++
				}
			}
			switch was := x.sell[0].results[b.Lot].Bidder; {
			case was == b.Bidder && now[b.Lot].Bidder != was:
				t.Errorf("%v: Sell = %v; with more %v: %v", q.SaSale, x.sell[0], b, now)
			case was == b.Bidder:
				kept++
			case now[b.Lot].Bidder == b.Bidder:
				passed++
			}
		}
	})
	if more < 2000 || kept < 2000 || passed < 2000 {
		t.Errorf("just %d sold for more, %d still buy, %d buy now", more, kept, passed)
	}
}

// P12.13: if a Reserve is less no lot that was sold is not, with any ring.
func TestLessReserve(t *testing.T) {
	t.Parallel()
	r := seed(12130)
	still, now := 0, 0
	asks(func(q question, x told) {
		for _, i := range slices.Repeat(upTo(len(q.Lots)), 3) {
			reserve := q.Lots[i].Reserve
			if reserve == 1 {
				continue
			}
			s := cloned(q.SaSale)
			s.Lots[i].Reserve = oneOf(r, reserve-1, 1, 1+r.Intn(reserve-1))
			n := r.Intn(len(x.sell))
			for k, got := range sell(s, ringsOf(s)[n]).results {
				was := x.sell[n].results[k]
				switch {
				case was != nobody() && got.Bidder != was.Bidder || k != i && got != was:
					t.Errorf("%v: Sell = %v; with a Reserve of %d of %d: %v", q.SaSale, x.sell[n], s.Lots[i].Reserve, i, got)
				case was != nobody() && k == i:
					still++
				case got != nobody() && k == i:
					now++
				}
			}
		}
	})
	if still < 2000 || now < 200 {
		t.Errorf("just %d still sold, %d now", still, now)
	}
}

// P12.14: with one more entry no ring is added, no fewer must be members, and no more may.
func TestOneMore(t *testing.T) {
	t.Parallel()
	r := seed(1214)
	less, as := 0, 0
	asks(func(q question, x told) {
		for i, l := range q.catalogues {
			if x.rings[i].e == api.ErrZero || len(l) == 0 {
				continue // there is no ring that could have been added
			}
			k := r.Intn(len(l))
			before := left(l, list(k))
			s, m := rings(q.SaSale, before), members(q.SaSale, before)
			added := slices.ContainsFunc(x.rings[i].rings, func(ring []int) bool { return !has(s.rings, ring) })
			if s.e != api.OK || added || !contains(x.members[i].must, m.must) || !contains(m.may, x.members[i].may) {
				t.Errorf("%v: %v: Rings = %v, Members = %v; without %d: %v, %v", q.SaSale, l, x.rings[i], x.members[i], k, s, m)
			}
			if len(s.rings) > len(x.rings[i].rings) {
				less++
			} else {
				as++
			}
		}
	})
	if less < 1000 || as < 1000 {
		t.Errorf("just %d with fewer rings, %d with as many", less, as)
	}
}
