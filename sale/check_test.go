package sale_test

import (
	"fmt"
	"slices"
	"strings"
	"testing"

	"duodecimo/api"
	"duodecimo/sale"
)

// checked is a sale, and what Check returns.
type checked struct {
	s        api.SaSale
	part, at int
	e        api.Errno
}

// Things with all errors that one can have.
var (
	worstStep = api.SaStep{From: -1, By: -1}
	worstLot  = api.SaLot{Seller: -1, Reserve: -1}
	worstBid  = api.SaBid{Bidder: -1, Lot: -1, Most: -1}
)

// errorIf is one of two errors.
func errorIf(isSo bool, e, other api.Errno) api.Errno {
	if isSo {
		return e
	}
	return other
}

// steps is the example with other steps, and an error behind them.
func steps(some ...api.SaStep) api.SaSale {
	return but(func(s *api.SaSale) { s.Steps, s.Premium = some, -1 })
}

// terms is the example with another Premium, Fee and Days, and an error behind them.
func terms(premium, fee, days int) api.SaSale {
	return but(func(s *api.SaSale) { s.Premium, s.Fee, s.Days, s.Bidders = premium, fee, days, names("") })
}

// bidders is the example with other bidders, and an error behind them.
func bidders(some ...string) api.SaSale {
	return but(func(s *api.SaSale) { s.Bidders, s.Sellers = some, names("") })
}

// sellers is the example with other sellers, and an error behind them.
func sellers(some ...string) api.SaSale {
	return but(func(s *api.SaSale) { s.Sellers, s.Lots = some, []api.SaLot{worstLot} })
}

// lots is the example with other lots, and an error behind them.
func lots(some ...api.SaLot) api.SaSale {
	return but(func(s *api.SaSale) { s.Lots, s.Bids = some, []api.SaBid{worstBid} })
}

// bids is the example with other bids.
func bids(some ...api.SaBid) api.SaSale { return but(func(s *api.SaSale) { s.Bids = some }) }

// names is a list of names.
func names(some ...string) []string { return some }

// checkedIf is a sale with an error behind what is looked at if this is so, otherwise one with an error there.
func checkedIf(isSo bool, s api.SaSale, part, at int, e api.Errno, behind checked) checked {
	if isSo {
		return checked{s, behind.part, behind.at, behind.e}
	}
	return checked{s, part, at, e}
}

// badName is the name of the last one of some things, those of the others, and its error.
type badName struct {
	others []string
	name   string
	e      api.Errno
}

// badNames are names with errors, and without.
func badNames() []badName {
	long := strings.Repeat("a", api.MaxName)
	all := []badName{{nil, "a", api.OK}, {names("a", "b"), "c", api.OK}, {names("a"), "a.1", api.OK}, {names("a"), long, api.OK}, {names("a", "b"), "b", api.ErrTwice}, {names("a", "b"), "a", api.ErrTwice}, {names("a", "b", "c"), "a", api.ErrTwice}, {names(long), long, api.ErrTwice}}
	for _, name := range names("", "A", "1a", ".a", "a b", "a\xff", "ä", "a-", "a\n", long+"a") {
		all = append(all, badName{nil, name, api.ErrForm}, badName{names("a"), name, api.ErrForm})
	}
	return all
}

// all are the names of all things.
func (x badName) all() []string { return append(slices.Clone(x.others), x.name) }

// checkedSteps are sales with errors of steps; the next error is that of the Premium.
func checkedSteps() []checked {
	good := step(0, 1)
	all := []checked{
		{steps(), 1, 0, api.ErrLong}, {steps(make([]api.SaStep, api.MaxSaSteps+1)...), 1, 0, api.ErrLong}, {steps(append(full().Steps, step(90000, 1))...), 1, 0, api.ErrLong}, {steps(make([]api.SaStep, 1<<16)...), 1, 0, api.ErrLong}, {steps(full().Steps...), 2, 0, api.ErrRange}, {steps(good), 2, 0, api.ErrRange}, {steps(step(0, 9), step(1, 8), step(2, 7), step(99999, 6), step(100000, 100000)), 2, 0, api.ErrRange},
		{steps(worstStep), 1, 0, api.ErrRange}, {steps(good, worstStep, worstStep), 1, 1, api.ErrRange}, {steps(good, step(1, 1), worstStep), 1, 2, api.ErrRange}, {steps(good, step(5, 1), step(5, 1)), 1, 2, api.ErrRange}, {steps(good, step(5, 1), step(4, 1)), 1, 2, api.ErrRange}, {steps(good, step(5, 1), step(6, 1)), 2, 0, api.ErrRange}, {steps(good, step(100000, 1), step(100001, 1)), 1, 2, api.ErrRange}, {steps(good, step(0, 1)), 1, 1, api.ErrRange}, {steps(step(1, 1), step(2, 1)), 1, 0, api.ErrRange}, {steps(good, step(9, 0), worstStep), 1, 1, api.ErrRange},
	}
	for _, n := range numbers(0, 1, 7, 50, api.MaxSaPrice) {
		next := checked{part: 2, e: api.ErrRange}
		all = append(all, checkedIf(n == 0, steps(step(n, 1), step(100000, 1)), 1, 0, api.ErrRange, next))
		all = append(all, checkedIf(n > 7 && n <= api.MaxSaPrice, steps(good, step(7, 1), step(n, 1)), 1, 2, api.ErrRange, next))
		all = append(all, checkedIf(n >= 1 && n <= api.MaxSaPrice, steps(good, step(7, n)), 1, 1, api.ErrRange, next))
		all = append(all, checkedIf(n >= 1 && n <= api.MaxSaPrice, steps(step(0, n)), 1, 0, api.ErrRange, next))
	}
	return all
}

// checkedTerms are sales with errors of the Premium, the Fee and the Days; the next error is that of a bidder.
func checkedTerms() []checked {
	var all []checked
	for _, n := range numbers(0, api.MaxSaDays, api.MaxSaMille) {
		next := checked{part: 3, e: api.ErrForm}
		mille := n >= 0 && n <= api.MaxSaMille
		all = append(all, checkedIf(mille, terms(n, 0, 60), 2, 0, api.ErrRange, next), checkedIf(mille, terms(500, n, 0), 2, 0, api.ErrRange, next), checkedIf(n >= 0 && n <= api.MaxSaDays, terms(0, 500, n), 2, 0, api.ErrRange, next))
	}
	return all
}

// checkedPeople are sales with errors of bidders and of sellers; the next error is that of a seller, or of a lot.
func checkedPeople() []checked {
	six, four := named("b", 6), named("s", 4)
	seller, lot := checked{part: 4, e: api.ErrForm}, checked{part: 5, e: api.ErrForm}
	all := []checked{
		{bidders(), 4, 0, api.ErrForm}, {bidders(six...), 4, 0, api.ErrForm}, {bidders(append(six, "c")...), 3, 0, api.ErrLong}, {bidders(make([]string, 7)...), 3, 0, api.ErrLong}, {bidders(make([]string, 1<<16)...), 3, 0, api.ErrLong}, {bidders("a", "B", ""), 3, 1, api.ErrForm}, {bidders("a", "b", "a", ""), 3, 2, api.ErrTwice}, {bidders("a", "b", "B", "a"), 3, 2, api.ErrForm},
		{sellers(), 5, 0, api.ErrForm}, {sellers(four...), 5, 0, api.ErrForm}, {sellers(append(four, "c")...), 4, 0, api.ErrLong}, {sellers(make([]string, 5)...), 4, 0, api.ErrLong}, {sellers(make([]string, 1<<16)...), 4, 0, api.ErrLong}, {sellers("a", "B", ""), 4, 1, api.ErrForm}, {sellers("a", "b", "a", ""), 4, 2, api.ErrTwice}, {sellers("a", "b", "B", "a"), 4, 2, api.ErrForm}, {sellers("ann"), 5, 0, api.ErrForm}, // the name of a bidder
	}
	for _, x := range badNames() {
		all = append(all, checkedIf(x.e == api.OK, bidders(x.all()...), 3, len(x.others), x.e, seller), checkedIf(x.e == api.OK, sellers(x.all()...), 4, len(x.others), x.e, lot))
	}
	return all
}

// checkedLots are sales with errors of lots; the next error is that of a bid.
func checkedLots() []checked {
	next := checked{part: 6, e: api.ErrNone}
	good, six := lot("a", 0, 1), full().Lots
	for i := range six {
		six[i].Seller = 0
	}
	all := []checked{
		{lots(), 6, 0, api.ErrNone}, {lots(good), 6, 0, api.ErrNone}, {lots(six...), 6, 0, api.ErrNone}, {lots(append(six, good)...), 5, 0, api.ErrLong}, {lots(make([]api.SaLot, 7)...), 5, 0, api.ErrLong}, {lots(make([]api.SaLot, 1<<16)...), 5, 0, api.ErrLong},
		{lots(worstLot), 5, 0, api.ErrForm}, {lots(good, worstLot, worstLot), 5, 1, api.ErrForm}, {lots(good, lot("a", -1, -1), worstLot), 5, 1, api.ErrTwice}, {lots(good, lot("b", -1, -1), worstLot), 5, 1, api.ErrNone}, {lots(good, lot("b", 1, 0), worstLot), 5, 1, api.ErrNone}, {lots(good, lot("b", 0, 0), worstLot), 5, 1, api.ErrRange}, {lots(good, defect("b", 0, 100001), worstLot), 5, 1, api.ErrRange}, {lots(lot("ann", 0, 1), defect("duke", 0, 1)), 6, 0, api.ErrNone}, // names of a bidder and of a seller
		{but(func(s *api.SaSale) { s.Sellers = nil }), 5, 0, api.ErrNone}, {but(func(s *api.SaSale) { s.Sellers, s.Lots = nil, nil }), 6, 0, api.ErrNone},
	}
	for _, x := range badNames() {
		var some []api.SaLot
		for _, name := range x.all() {
			some = append(some, lot(name, 0, 1))
		}
		all = append(all, checkedIf(x.e == api.OK, lots(some...), 5, len(x.others), x.e, next))
	}
	for _, n := range numbers(0, 1, 3, api.MaxSaPrice) {
		all = append(all, checkedIf(n >= 1 && n <= api.MaxSaPrice, lots(good, lot("b", 0, n)), 5, 1, api.ErrRange, next))
		s := lots(good, lot("b", n, 1))
		s.Sellers = named("s", 3)
		all = append(all, checkedIf(n >= 0 && n < 3, s, 5, 1, api.ErrNone, next))
	}
	return all
}

// checkedBids are sales with errors of bids, and without.
func checkedBids() []checked {
	good, many := bid(0, 0, 1), full()
	many.Bids = append(many.Bids, bid(5, 5, 1))
	short := cloned(many)
	short.Bids = short.Bids[:api.MaxSaBids]
	all := []checked{
		{bids(), 0, 0, api.OK}, {bids(good), 0, 0, api.OK}, {many, 6, 0, api.ErrLong}, {short, 0, 0, api.OK}, {bids(make([]api.SaBid, 17)...), 6, 0, api.ErrLong}, {bids(make([]api.SaBid, 1<<16)...), 6, 0, api.ErrLong}, {bids(slices.Repeat([]api.SaBid{good}, 16)...), 6, 1, api.ErrTwice},
		{bids(worstBid), 6, 0, api.ErrNone}, {bids(good, worstBid, worstBid), 6, 1, api.ErrNone}, {bids(good, bid(-1, 0, 0), worstBid), 6, 1, api.ErrNone}, {bids(good, bid(0, -1, 0), worstBid), 6, 1, api.ErrNone}, {bids(good, bid(4, 0, 0), worstBid), 6, 1, api.ErrNone}, {bids(good, bid(0, 3, 0), worstBid), 6, 1, api.ErrNone}, {bids(good, bid(0, 0, 0), worstBid), 6, 1, api.ErrRange}, {bids(good, bid(0, 0, 100001), worstBid), 6, 1, api.ErrRange}, {bids(good, bid(0, 0, 2), worstBid), 6, 1, api.ErrTwice},
		{bids(good, bid(0, 1, 1), bid(1, 0, 1), bid(1, 1, 1), bid(0, 0, 1), worstBid), 6, 4, api.ErrTwice}, {bids(good, bid(0, 1, 1), bid(1, 0, 1), bid(0, 2, 1), bid(2, 0, 1), bid(1, 2, 1), bid(2, 1, 1)), 0, 0, api.OK},
		{but(func(s *api.SaSale) { s.Bidders = nil }), 6, 0, api.ErrNone}, {but(func(s *api.SaSale) { s.Lots = nil }), 6, 0, api.ErrNone}, {but(func(s *api.SaSale) { s.Lots = s.Lots[:2] }), 6, 5, api.ErrNone}, {but(func(s *api.SaSale) { s.Bidders = s.Bidders[:3] }), 6, 4, api.ErrNone},
	}
	for _, n := range numbers(0, 1, 3, 4, api.MaxSaPrice) {
		all = append(all, checkedIf(n >= 1 && n <= api.MaxSaPrice, bids(good, bid(1, 1, n)), 6, 1, api.ErrRange, checked{}))
		all = append(all, checkedIf(n >= 0 && n < 4, bids(good, bid(n, 1, 1)), 6, 1, api.ErrNone, checked{}))
		all = append(all, checkedIf(n >= 0 && n < 3, bids(good, bid(1, n, 1)), 6, 1, api.ErrNone, checked{}))
	}
	return all
}

// allChecked are all sales that Check is held against.
func allChecked() []checked {
	good := []checked{{example(), 0, 0, api.OK}, {full(), 0, 0, api.OK}, {api.SaSale{}, 1, 0, api.ErrLong}, {api.SaSale{Steps: fives()}, 0, 0, api.OK}, {oneLot(fives(), 1), 0, 0, api.OK}, {api.SaSale{Steps: fives(), Days: -1}, 2, 0, api.ErrRange}}
	return slices.Concat(good, checkedSteps(), checkedTerms(), checkedPeople(), checkedLots(), checkedBids())
}

// P12.1: the errors of a sale in their order.
func TestCheck(t *testing.T) {
	for i, x := range allChecked() {
		part, at, e := sale.Check(x.s)
		if part != x.part || at != x.at || e != x.e {
			t.Errorf("%d: Check(%v) = %d, %d, %d, not %d, %d, %d", i, x.s, part, at, e, x.part, x.at, x.e)
		}
	}
}

// said are the errors of all functions but Check, each called with errors of its own as well, and what they return besides.
func said(s api.SaSale) (errors map[string]api.Errno, results []any) {
	ring, l := list(0, -1, 0), entries(sold(-1, -1, -2), sold(-1, -1, -2))
	n, b, a, h := next(s, -1), sell(s, ring), account(s, ring, []api.SaReturn{back(-1, -1)}), share(s, ring)
	r, m, w := rings(s, l), members(s, l), wrong(s, l)
	errors = map[string]api.Errno{"Next": n.e, "Sell": b.e, "Account": a.e, "Share": h.e, "Rings": r.e, "Members": m.e, "Wrong": w.e}
	return errors, []any{n.price, b.results, a.bidders, a.sellers, a.house, h.numbers, r.rings, m.must, m.may, w.numbers}
}

// zero reports whether each of some results is its zero value.
func zero(results ...any) bool {
	return !slices.ContainsFunc(results, func(x any) bool {
		s := fmt.Sprint(x)
		return s != "0" && s != "[]"
	})
}

// P12.1: all functions but Check return its error first, and nothing else.
func TestSaleFirst(t *testing.T) {
	for i, x := range allChecked() {
		if x.e == api.OK {
			continue
		}
		errors, results := said(x.s)
		for name, e := range errors {
			if e != x.e {
				t.Errorf("%d: %s: %d", i, name, e)
			}
		}
		if !zero(results...) {
			t.Errorf("%d: %v", i, results)
		}
	}
}

// P12.1: all that the other tests are about has no error.
func TestCheckCases(t *testing.T) {
	for _, q := range cases() {
		if part, at, e := sale.Check(q.SaSale); part != 0 || at != 0 || e != api.OK {
			t.Errorf("Check(%v) = %d, %d, %d", q.SaSale, part, at, e)
		}
	}
}

// P12.2: a price is from 0 to the greatest one.
func TestNextErrors(t *testing.T) {
	for _, n := range numbers(0, 50, api.MaxSaPrice) {
		in := n >= 0 && n <= api.MaxSaPrice
		if x := next(example(), n); x.e != errorIf(in, api.OK, api.ErrRange) || !in && x.price != 0 {
			t.Errorf("Next of %d = %v", n, x)
		}
	}
}

// P12.2 to P12.4: rings: who is none comes before those who are not ascending, and both before one alone; each before the returns.
func TestRingErrors(t *testing.T) {
	type ringed struct {
		s    api.SaSale
		ring []int
		e    api.Errno
	}
	s, empty := example(), api.SaSale{Steps: fives()}
	all := []ringed{
		{s, nil, api.OK}, {s, list(), api.OK}, {s, list(0, 1), api.OK}, {s, list(0, 1, 2, 3), api.OK}, {s, list(0), api.ErrLong}, {s, list(3), api.ErrLong}, {s, list(4), api.ErrNone}, {s, list(-1), api.ErrNone}, {s, list(1, 0), api.ErrArg}, {s, list(1, 1), api.ErrArg}, {s, list(0, 2, 1), api.ErrArg}, {s, list(0, 1, 1), api.ErrArg}, {s, list(1, 0, 4), api.ErrNone}, {s, list(0, 0, -1), api.ErrNone}, {s, list(0, 1, 4), api.ErrNone}, {s, list(-1, 0, 1), api.ErrNone}, {s, list(0, 1, 2, 3, 4), api.ErrNone}, {s, slices.Repeat(list(1), 1000), api.ErrArg}, {s, append(slices.Repeat(list(1), 1000), 9), api.ErrNone},
		{empty, nil, api.OK}, {empty, list(0), api.ErrNone}, {empty, list(0, 1), api.ErrNone}, {oneLot(fives(), 1, 1), list(0), api.ErrLong}, {oneLot(fives(), 1, 1), list(0, 0), api.ErrArg}, {full(), upTo(6), api.OK}, {full(), upTo(7), api.ErrNone}, {full(), list(5), api.ErrLong}, {full(), list(4, 5), api.OK},
	}
	for _, n := range numbers(0, 3, 4) {
		all = append(all, ringed{s, list(n), errorIf(n >= 0 && n < 4, api.ErrLong, api.ErrNone)}, ringed{s, list(1, n), errorIf(n < 0 || n > 3, api.ErrNone, errorIf(n > 1, api.OK, api.ErrArg))})
	}
	for i, x := range all {
		b, a, h := sell(x.s, x.ring), account(x.s, x.ring, nil), share(x.s, x.ring)
		if b.e != x.e || a.e != x.e || h.e != x.e {
			t.Errorf("%d: Sell, Account and Share of %v: %d, %d, %d, not %d", i, x.ring, b.e, a.e, h.e, x.e)
		}
		late := account(x.s, x.ring, []api.SaReturn{back(-1, 0)})
		if late.e != errorIf(x.e == api.OK, api.ErrNone, x.e) || !zero(late.bidders, late.sellers, late.house) {
			t.Errorf("%d: Account of %v = %v", i, x.ring, late)
		}
		if x.e != api.OK && !zero(b.results, a.bidders, a.sellers, a.house, h.numbers) {
			t.Errorf("%d: Sell, Account and Share of %v: %v, %v, %v", i, x.ring, b, a, h)
		}
	}
}

// P12.3: the first return with an error decides, and of its errors the one named first.
func TestReturnErrors(t *testing.T) {
	// The lot 0 is defective, and so is 3, which is not sold; 1 and 2 are not.
	s := but(func(s *api.SaSale) { s.Lots = append(s.Lots, defect("rest", 0, 1)) })
	good := back(bible, 14)
	type ended struct {
		returns []api.SaReturn
		e       api.Errno
	}
	all := []ended{
		{nil, api.OK}, {[]api.SaReturn{good}, api.OK}, {[]api.SaReturn{good, good}, api.ErrTwice}, {[]api.SaReturn{good, back(0, 15)}, api.ErrTwice}, {[]api.SaReturn{good, back(0, -1)}, api.ErrTwice}, {[]api.SaReturn{back(0, 15), good}, api.ErrRange}, {[]api.SaReturn{back(0, -1)}, api.ErrRange},
		{[]api.SaReturn{back(4, 0)}, api.ErrNone}, {[]api.SaReturn{back(-1, 0)}, api.ErrNone}, {[]api.SaReturn{back(4, 15)}, api.ErrNone}, {[]api.SaReturn{good, back(4, 15)}, api.ErrNone}, {[]api.SaReturn{back(4, 15), back(4, 15)}, api.ErrNone}, {[]api.SaReturn{back(0, 15), back(4, 0)}, api.ErrRange},
		{[]api.SaReturn{back(atlas, 0)}, api.ErrDown}, {[]api.SaReturn{back(fan, 0)}, api.ErrDown}, {[]api.SaReturn{back(3, 0)}, api.ErrDown}, {[]api.SaReturn{back(atlas, 15)}, api.ErrRange}, {[]api.SaReturn{back(3, -1)}, api.ErrRange}, {[]api.SaReturn{good, back(3, 0), back(4, 0)}, api.ErrDown}, {[]api.SaReturn{back(3, 0), back(3, 0)}, api.ErrDown}, {[]api.SaReturn{good, back(atlas, 0), good}, api.ErrDown}, {[]api.SaReturn{good, good, back(4, 0)}, api.ErrTwice},
	}
	for _, n := range numbers(0, 3, 14) {
		all = append(all, ended{[]api.SaReturn{back(0, n)}, errorIf(n >= 0 && n <= 14, api.OK, api.ErrRange)})
		all = append(all, ended{[]api.SaReturn{back(n, 15)}, errorIf(n >= 0 && n <= 3, api.ErrRange, api.ErrNone)})
	}
	for i, x := range all {
		for _, ring := range rows(nil, list(0, 2), list(0, 1, 2, 3)) {
			if a := account(s, ring, x.returns); a.e != x.e || x.e != api.OK && !zero(a.bidders, a.sellers, a.house) {
				t.Errorf("%d: Account of %v, %v = %v, not %d", i, ring, x.returns, a, x.e)
			}
		}
	}
	if a := account(but(func(s *api.SaSale) { s.Days = 0 }), nil, []api.SaReturn{back(0, 0)}); a.e != api.OK {
		t.Errorf("Account, the bible returned on the day of the sale, = %v", a)
	}
	if a := account(api.SaSale{Steps: fives()}, nil, []api.SaReturn{back(0, 0)}); a.e != api.ErrNone {
		t.Errorf("Account without lots = %v", a)
	}
}

// P12.5, P12.6: the first entry with an error decides, and of its errors the one named first.
func TestEntryErrors(t *testing.T) {
	type listed struct {
		l []api.SaEntry
		e api.Errno
	}
	priced := api.SaEntry{Lot: atlas, Price: span(0, 1)}
	first, worst := sold(bible, 20, 60), sold(-1, -1, -2)
	all := []listed{
		{nil, api.OK}, {entries(first), api.OK}, {entries(first, sold(atlas, 0, 100000), unsold(fan)), api.OK}, {entries(first, unsold(fan)), api.OK}, {entries(worst), api.ErrNone}, {entries(first, worst), api.ErrNone}, {entries(sold(3, 0, 1)), api.ErrNone}, {entries(unsold(3)), api.ErrNone}, {entries(unsold(-1)), api.ErrNone}, {entries(unsold(fan), sold(3, 0, 0)), api.ErrNone},
		{entries(first, first), api.ErrArg}, {entries(first, unsold(bible)), api.ErrArg}, {entries(sold(atlas, 0, 1), sold(bible, -1, -2)), api.ErrArg}, {entries(sold(atlas, 0, 1), unsold(bible), worst), api.ErrArg}, {entries(unsold(fan), first), api.ErrArg}, {entries(priced), api.ErrArg}, {entries(api.SaEntry{Price: span(1, 1)}), api.ErrArg}, {entries(api.SaEntry{Price: span(-1, 0)}), api.ErrArg}, {entries(api.SaEntry{Price: span(-1, 100001)}), api.ErrArg}, {entries(api.SaEntry{Price: span(0, 100001)}), api.ErrArg}, {entries(api.SaEntry{Price: span(1, 0)}), api.ErrArg}, {entries(first, priced, worst), api.ErrArg},
		{entries(sold(bible, -1, 5)), api.ErrRange}, {entries(sold(bible, 0, 100001)), api.ErrRange}, {entries(sold(bible, 100001, 5)), api.ErrRange}, {entries(sold(bible, 5, -1)), api.ErrRange}, {entries(first, sold(atlas, -1, -2), worst), api.ErrRange}, {entries(sold(bible, 6, 5)), api.ErrArg}, {entries(sold(bible, 100000, 0)), api.ErrArg}, {entries(first, sold(atlas, 1, 0), worst), api.ErrArg}, {entries(sold(bible, 6, 5), sold(atlas, -1, 0)), api.ErrArg}, {entries(sold(bible, -1, 5), sold(bible, 0, 0)), api.ErrRange},
		{entries(first, sold(atlas, 0, 100000), unsold(fan), unsold(3)), api.ErrNone}, {slices.Repeat(entries(first), 1000), api.ErrArg},
	}
	for _, n := range numbers(0, 1, 2, 3, 60, api.MaxSaPrice) {
		in := n >= 0 && n <= api.MaxSaPrice
		all = append(all, listed{entries(unsold(bible), unsold(n)), errorIf(n < 0 || n > 2, api.ErrNone, errorIf(n > 0, api.OK, api.ErrArg))})
		all = append(all, listed{entries(sold(bible, n, 60)), errorIf(in, errorIf(n <= 60, api.OK, api.ErrArg), api.ErrRange)})
		all = append(all, listed{entries(sold(bible, 60, n)), errorIf(in, errorIf(n >= 60, api.OK, api.ErrArg), api.ErrRange)})
	}
	for i, x := range all {
		r, m, w := rings(example(), x.l), members(example(), x.l), wrong(example(), x.l)
		if x.e == api.OK {
			if !slices.Contains(errnos(api.OK, api.ErrZero), r.e) || m.e != r.e || w.e != api.OK {
				t.Errorf("%d: Rings, Members and Wrong of %v: %v, %v, %v", i, x.l, r, m, w)
			}
			continue
		}
		if r.e != x.e || m.e != x.e || w.e != x.e || !zero(r.rings, m.must, m.may, w.numbers) {
			t.Errorf("%d: Rings, Members and Wrong of %v: %v, %v, %v, not %d", i, x.l, r, m, w, x.e)
		}
	}
	if r := rings(api.SaSale{Steps: fives()}, entries(unsold(0))); r.e != api.ErrNone {
		t.Errorf("Rings without lots = %v", r)
	}
}

// errnos is a list of errors.
func errnos(some ...api.Errno) []api.Errno { return some }

// P12.15: all functions return for any numbers and texts.
func TestAnyArguments(t *testing.T) {
	ints := numbers(0, 1, 6, api.MaxSaMille, api.MaxSaPrice)
	for _, n := range ints {
		for _, m := range ints {
			for i, s := range []api.SaSale{
				example(), steps(step(n, m)), but(func(s *api.SaSale) { s.Steps = []api.SaStep{step(0, n), step(n, m), step(m, n)} }), terms(n, m, n), but(func(s *api.SaSale) { s.Premium, s.Fee, s.Days = n, m, m }), bidders("a\xff", ""), lots(lot("a", n, m), lot("b", m, n)), but(func(s *api.SaSale) { s.Lots[1].Reserve, s.Lots[2].Reserve = n, m }), bids(bid(n, m, n), bid(m, n, m)), bids(bid(0, 0, n), bid(1, 0, m), bid(2, 1, n)), but(func(s *api.SaSale) { s.Bids[0].Lot, s.Bids[1].Bidder = n, m }),
			} {
				_, _, e := sale.Check(s)
				errors, results := said(s)
				if wrong := errors["Sell"]; wrong != errorIf(e != api.OK, e, api.ErrNone) || !zero(results...) {
					t.Errorf("%d, %d, %d: Sell: %d, %v", i, n, m, wrong, results)
				}
				next(s, n)
				sell(s, list(n, m))
				account(s, list(0, n), []api.SaReturn{back(n, m), back(m, n)})
				account(s, nil, []api.SaReturn{back(bible, n), back(m, n)})
				share(s, list(n, m, n))
				for _, l := range [][]api.SaEntry{entries(sold(n, n, m)), entries(sold(0, n, m), unsold(n)), entries(sold(0, m, m), sold(1, n, n), api.SaEntry{Lot: 2, Price: span(n, m)})} {
					rings(s, l)
					members(s, l)
					wrong(s, l)
				}
			}
		}
	}
}

// with is a list with something behind its end, that does not belong to it.
func with[T any](l []T, behind T) []T { return append(slices.Clone(l), behind)[:len(l)] }

// is reports whether behind the end of a list is still the same.
func is[T comparable](l []T, behind T) bool { return l[:len(l)+1][len(l)] == behind }

// P12.15: no argument is changed, nor the memory behind it.
func TestNotChanged(t *testing.T) {
	t.Parallel()
	aStep, aLot, aBid, aReturn, anEntry := step(7, 7), lot("behind", 7, 7), bid(7, 7, 7), back(7, 7), sold(7, 7, 7)
	for i, was := range cases()[:600] {
		q := question{prices: was.prices}
		q.SaSale = api.SaSale{Steps: with(was.Steps, aStep), Premium: was.Premium, Fee: was.Fee, Days: was.Days, Bidders: with(was.Bidders, "behind"), Sellers: with(was.Sellers, "behind"), Lots: with(was.Lots, aLot), Bids: with(was.Bids, aBid)}
		for _, r := range was.returns {
			q.returns = append(q.returns, with(r, aReturn))
		}
		for _, l := range was.catalogues {
			q.catalogues = append(q.catalogues, with(l, anEntry))
		}
		if x := tell(q); differ(x, answers()[i]) != "" {
			t.Errorf("%v: %s: %v, was %v", q, differ(x, answers()[i]), x, answers()[i])
		}
		sale.Check(q.SaSale)
		said(q.SaSale)
		if !same(q.SaSale, was.SaSale) || !alike(q.returns, was.returns) || !alike(q.catalogues, was.catalogues) {
			t.Errorf("%v became %v", was, q)
		}
		if !is(q.Steps, aStep) || !is(q.Bidders, "behind") || !is(q.Sellers, "behind") || !is(q.Lots, aLot) || !is(q.Bids, aBid) {
			t.Errorf("%v: what is behind its lists was changed", was)
		}
		if slices.ContainsFunc(q.returns, func(r []api.SaReturn) bool { return !is(r, aReturn) }) || slices.ContainsFunc(q.catalogues, func(l []api.SaEntry) bool { return !is(l, anEntry) }) {
			t.Errorf("%v: what is behind returns or entries was changed", was)
		}
		for _, ring := range ringsOf(q.SaSale) {
			r := with(ring, 7)
			sell(q.SaSale, r)
			account(q.SaSale, r, nil)
			share(q.SaSale, r)
			if !slices.Equal(r, ring) || !is(r, 7) {
				t.Errorf("%v: the ring %v became %v", was, ring, r)
			}
		}
	}
}

// P12.15: results are new memory: what is written there is seen neither in the arguments, nor in other results.
func TestNewMemory(t *testing.T) {
	t.Parallel()
	for _, q := range cases()[:300] {
		was, want := cloned(q.SaSale), fmt.Sprint(tell(q))
		x := tell(q)
		var results [][]int
		for i, b := range x.sell {
			for k := range b.results {
				b.results[k] = result(-7, -7)
			}
			for _, a := range x.account[i] {
				results = append(results, a.bidders, a.sellers)
			}
			results = append(results, x.share[i].numbers)
		}
		for i, s := range x.rings {
			results = append(results, s.rings...)
			results = append(results, x.members[i].must, x.members[i].may, x.wrong[i].numbers)
		}
		scribble(t, results)
		if !same(q.SaSale, was) || fmt.Sprint(tell(q)) != want {
			t.Errorf("%v became %v", was, q)
		}
	}
}

// scribble overwrites lists, also beyond their ends; what is in those behind must not change.
func scribble(t *testing.T, lists [][]int) {
	t.Helper()
	for k, numbers := range lists {
		numbers = numbers[:cap(numbers)]
		if slices.Contains(numbers, -7) {
			t.Errorf("the list %d shares memory with one before it: %v", k, numbers)
		}
		for i := range numbers {
			numbers[i] = -7
		}
	}
}
