package keep_test

import (
	"fmt"
	"math"
	"math/big"
	"slices"
	"testing"

	"hoarfrost/api"
	"hoarfrost/keep"
)

// most is that at which an allowance stops.
const most = 1 << 62

// The names of what answers a lot, and an error.
const (
	release = "Release"
	hold    = "Hold"
	review  = "Review"
	reject  = "Reject"
)

func names() []string { return []string{release, hold, review, reject} }

// statuses are all, and numbers that are none's; some would be, if they wrapped round.
func statuses() []api.Status { return append(noStatuses(), 0, 1, 2, 3, 4) }

func noStatuses() []api.Status {
	return []api.Status{-1, 5, -2, 6, 7, 8, 255, 256, 257, 1 << 32, 1<<32 + 1, 1<<32 + 2, -1<<32 + 1, math.MinInt, math.MinInt + 1, math.MaxInt}
}

// edges are numbers at the ends of what an allowance may be, and beyond.
func edges() []int {
	return []int{math.MinInt, math.MinInt + 1, -most, -most + 1, -1 << 32, -121, -2, -1, 0, 1, 2, 20, 100, 120, 1<<32 + 1, most/2 - 1, most / 2, most/2 + 1, most - 21, most - 20, most - 2, most - 1, most, most + 1, most + 20, math.MaxInt - 1, math.MaxInt}
}

// product has that budget, lot that status and that grant; all else of both is far from 0.
func product(budget int) api.Product { return api.Product{ID: 3, Limit: 40, Budget: budget} }

func lot(s api.Status, grant int) api.Lot {
	return api.Lot{ID: 7, Product: 3, Units: 12, Expiry: 900, Grant: grant, Order: 5, Status: s, Stays: where()}
}

func where() []api.Stay {
	return []api.Stay{{Zone: 2, From: 3, To: 40}, {Zone: 1, From: 40, To: 77}, {Zone: 4, From: 77, To: -1}}
}

// with is a lot with something else.
func with(l api.Lot, change func(l *api.Lot)) api.Lot {
	change(&l)
	return l
}

// without is a lot that has no order.
func without(l api.Lot) api.Lot { return with(l, func(l *api.Lot) { l.Order = 0 }) }

// same tells whether two lots are one, down to their stays.
func same(a, b api.Lot) bool {
	alike := slices.Equal(a.Stays, b.Stays)
	a.Stays, b.Stays = nil, nil
	return alike && fmt.Sprint(a) == fmt.Sprint(b)
}

// dice tell numbers that look like any, the same in each run.
type dice uint64

func (d *dice) below(n int) int {
	*d = *d*6364136223846793005 + 1442695040888963407
	x := uint64(*d^*d>>31) * 0x9e3779b97f4a7c15
	return int((x >> 1) % uint64(n))
}

func (d *dice) one(l ...int) int { return l[d.below(len(l))] }

// sum is both numbers, fitted, added, by the words: reckoned without an end, and ended then.
func sum(a, b int) int {
	n := big.NewInt(0)
	for _, x := range []int{a, b} {
		n.Add(n, big.NewInt(int64(min(max(x, 0), most))))
	}
	if n.Cmp(big.NewInt(most)) > 0 {
		return most
	}
	return int(n.Int64())
}

// over is whether a lot is, by the words.
func over(p api.Product, l api.Lot, exposure int) bool {
	return big.NewInt(int64(exposure)).Cmp(big.NewInt(int64(sum(p.Budget, l.Grant)))) > 0
}

// behind is what chapter 11's table has behind an event; false, if it has nothing there.
func behind(name string, s api.Status) (api.Status, bool) {
	table := map[string]map[api.Status]api.Status{
		release: {api.Quarantine: api.Released},
		hold:    {api.Quarantine: api.Held, api.Released: api.Held, api.Held: api.Held},
		review:  {api.Held: api.Released},
		reject:  {api.Quarantine: api.Rejected, api.Released: api.Rejected, api.Held: api.Rejected},
	}
	next, there := table[name][s]
	return next, there
}

// byWords is what is done with a lot, by the words.
func byWords(name string, p api.Product, l api.Lot, exposure, grant int) (api.Lot, api.Errno) {
	next, there := behind(name, l.Status)
	switch {
	case name == review && (grant < 0 || grant > most):
		return api.Lot{}, api.ErrArg
	case l.Status < 0 || l.Status > 4:
		return api.Lot{}, api.ErrArg
	case !there:
		return api.Lot{}, api.ErrState
	}
	l.Status = next
	if next == api.Held || next == api.Rejected {
		l.Order = 0
	}
	if name == review {
		l.Grant = sum(l.Grant, grant)
	}
	if next == api.Released && over(p, l, exposure) {
		return api.Lot{}, api.ErrOver
	}
	return l, api.OK
}

func mayByWords(p api.Product, l api.Lot, exposure, now int) api.Errno {
	switch {
	case l.Status != 1:
		return api.ErrState
	case !(now < l.Expiry):
		return api.ErrOld
	case over(p, l, exposure):
		return api.ErrOver
	}
	return api.OK
}

func judgeByWords(p api.Product, l api.Lot, exposure int) (api.Lot, bool) {
	if l.Status != 1 || !over(p, l, exposure) {
		return l, false
	}
	l.Status, l.Order = 2, 0
	return l, true
}

// do asks the program.
func do(name string, p api.Product, l api.Lot, exposure, grant int) (api.Lot, api.Errno) {
	switch name {
	case release:
		return keep.Release(p, l, exposure)
	case hold:
		return keep.Hold(l)
	case review:
		return keep.Review(p, l, exposure, grant)
	}
	return keep.Reject(l)
}

// Each of these wants what is written out, and that it is so by the words.

func wantDone(t *testing.T, name string, p api.Product, l api.Lot, exposure, grant int, want api.Lot, wantE api.Errno) {
	t.Helper()
	if words, e := byWords(name, p, l, exposure, grant); !same(words, want) || e != wantE {
		t.Errorf("%s of %v, by %v, at %d, with %d: by the words %v, error %d, not %v, error %d", name, l, p, exposure, grant, words, e, want, wantE)
	}
	if got, e := do(name, p, l, exposure, grant); !same(got, want) || e != wantE {
		t.Errorf("%s of %v, by %v, at %d, with %d: %v, error %d, not %v, error %d", name, l, p, exposure, grant, got, e, want, wantE)
	}
}

// wantError wants an error, and beside it an empty lot.
func wantError(t *testing.T, name string, p api.Product, l api.Lot, exposure, grant int, want api.Errno) {
	t.Helper()
	wantDone(t, name, p, l, exposure, grant, api.Lot{}, want)
}

func wantJudge(t *testing.T, p api.Product, l api.Lot, exposure int, want api.Lot, wantHeld bool) {
	t.Helper()
	if words, held := judgeByWords(p, l, exposure); !same(words, want) || held != wantHeld {
		t.Errorf("Judge of %v, by %v, at %d: by the words %v, %t, not %v, %t", l, p, exposure, words, held, want, wantHeld)
	}
	if got, held := keep.Judge(p, l, exposure); !same(got, want) || held != wantHeld {
		t.Errorf("Judge of %v, by %v, at %d: %v, %t, not %v, %t", l, p, exposure, got, held, want, wantHeld)
	}
}

func wantMay(t *testing.T, p api.Product, l api.Lot, exposure, now int, want api.Errno) {
	t.Helper()
	if e := mayByWords(p, l, exposure, now); e != want {
		t.Errorf("May of %v, by %v, at %d, now %d: by the words error %d, not %d", l, p, exposure, now, e, want)
	}
	if e := keep.May(p, l, exposure, now); e != want {
		t.Errorf("May of %v, by %v, at %d, now %d: error %d, not %d", l, p, exposure, now, e, want)
	}
}

func wantAllowance(t *testing.T, p api.Product, l api.Lot, want int) {
	t.Helper()
	if n := keep.Allowance(p, l); n != want {
		t.Errorf("Allowance of %v, by %v: %d, not %d", l, p, n, want)
	}
}

// P14.1, J1: a budget, and a grant, added; each below 0 is 0, beyond the most it is the most; and there they stop.
func TestAllowance(t *testing.T) {
	for _, x := range []struct{ budget, grant, want int }{
		{100, 20, 120}, {0, 0, 0}, {100, 0, 100}, {0, 20, 20},
		{-1, 20, 20}, {100, -1, 100}, {-100, -20, 0}, {-100, 120, 120}, {math.MinInt, math.MinInt, 0}, {math.MinInt, 5, 5}, {5, math.MinInt, 5},
		{most, 0, most}, {0, most, most}, {most - 1, 0, most - 1}, {most - 1, 1, most}, {most - 1, 2, most}, {1, most - 1, most}, {1, most - 2, most - 1},
		{most, 1, most}, {1, most, most}, {most, most, most}, {most / 2, most / 2, most}, {most / 2, most/2 - 1, most - 1}, {most/2 + 1, most / 2, most},
		{most + 1, 0, most}, {0, most + 1, most}, {most, -1, most}, {math.MaxInt, math.MinInt, most}, {-5, math.MaxInt, most}, {math.MaxInt, math.MaxInt, most}, {math.MaxInt, 1, most},
	} {
		wantAllowance(t, product(x.budget), lot(api.Released, x.grant), x.want)
	}
	for _, budget := range edges() {
		for _, grant := range edges() {
			wantAllowance(t, product(budget), lot(api.Held, grant), sum(budget, grant))
		}
	}
}

// P14.1, J1: nothing else of a lot, or of its product, makes a difference to its allowance.
func TestAllowanceAlone(t *testing.T) {
	wantAllowance(t, api.Product{Budget: 100}, api.Lot{Grant: 20}, 120)
	for _, n := range edges() {
		wantAllowance(t, api.Product{ID: n, Limit: n, Budget: 100}, lot(1, 20), 120)
		l := api.Lot{ID: n, Product: n, Units: n, Expiry: n, Order: n, Status: api.Status(n), Grant: 20, Stays: []api.Stay{{Zone: n, From: n, To: n}}}
		wantAllowance(t, product(100), l, 120)
	}
}

// P14.1: the document's example: at 121, with a budget of 100, and a grant of 20, it is held; a grant of 1 more releases it.
func TestExample(t *testing.T) {
	p := product(100)
	l, held := keep.Judge(p, lot(api.Released, 20), 121)
	if !held || !same(l, without(lot(api.Held, 20))) {
		t.Fatalf("Judge: %v, %t", l, held)
	}
	if got, e := keep.Review(p, l, 121, 0); e != api.ErrOver || !same(got, api.Lot{}) {
		t.Errorf("Review without a grant: %v, error %d", got, e)
	}
	l, e := keep.Review(p, l, 121, 1)
	if e != api.OK || !same(l, without(lot(api.Released, 21))) {
		t.Errorf("Review: %v, error %d", l, e)
	}
	if _, held := keep.Judge(p, l, 121); held || keep.May(p, l, 121, 899) != api.OK {
		t.Errorf("%v is held, or may not be shipped", l)
	}
}

// P14.1, J1: one below an allowance, the same, and one above it: a lot that is released is held at the last one, with all else as it was, but its order.
func TestJudge(t *testing.T) {
	for _, x := range []struct{ budget, grant, allowance int }{
		{100, 20, 120}, {100, 0, 100}, {0, 20, 20}, {0, 0, 0}, {-7, 20, 20}, {100, -7, 100}, {-7, -7, 0}, {most - 5, 4, most - 1}, {most - 5, 5, most}, {most, most, most}, {math.MaxInt, 1, most}, {math.MinInt, math.MaxInt, most},
	} {
		p, l := product(x.budget), lot(api.Released, x.grant)
		held := without(lot(api.Held, x.grant))
		for _, exposure := range []int{math.MinInt, -1, x.allowance - 1, x.allowance} {
			wantJudge(t, p, l, exposure, l, false)
			wantJudge(t, p, without(l), exposure, without(l), false)
		}
		for _, exposure := range []int{x.allowance + 1, x.allowance + 2, math.MaxInt} {
			wantJudge(t, p, l, exposure, held, true)
			wantJudge(t, p, without(l), exposure, held, true)
		}
	}
}

// P14.1, J1: a lot of any other status, or of one that is none, is as it was, over or not, with an order and without one.
func TestJudgeOthers(t *testing.T) {
	for _, s := range statuses() {
		if s == api.Released {
			continue
		}
		for _, exposure := range []int{0, 119, 120, 121, most, math.MaxInt} {
			wantJudge(t, product(100), lot(s, 20), exposure, lot(s, 20), false)
			wantJudge(t, product(100), without(lot(s, 20)), exposure, without(lot(s, 20)), false)
		}
	}
	wantJudge(t, api.Product{}, api.Lot{}, 1, api.Lot{}, false)
	wantJudge(t, api.Product{}, api.Lot{Status: api.Released}, 0, api.Lot{Status: api.Released}, false)
	wantJudge(t, api.Product{}, api.Lot{Status: api.Released}, 1, api.Lot{Status: api.Held}, true)
}

// P14.1, J1: a lot that is released, with an order and without one; now is one below its Expiry, the same, and one above it; likewise its exposure.
func TestMay(t *testing.T) {
	p := product(100)
	for _, l := range []api.Lot{lot(api.Released, 20), without(lot(api.Released, 20))} {
		for _, exposure := range []int{math.MinInt, -1, 0, 119, 120} {
			for _, now := range []int{math.MinInt, -1, 0, 898, 899} {
				wantMay(t, p, l, exposure, now, api.OK)
			}
			for _, now := range []int{900, 901, 1 << 20, 1<<32 + 1, math.MaxInt} {
				wantMay(t, p, l, exposure, now, api.ErrOld)
			}
		}
		for _, exposure := range []int{121, 122, most, most + 1, math.MaxInt} {
			wantMay(t, p, l, exposure, 899, api.ErrOver)
		}
	}
	wantMay(t, p, lot(api.Released, most), most, 5, api.OK)
	wantMay(t, p, lot(api.Released, most), most+1, 5, api.ErrOver)
}

// P14.1, J1: any Expiry, also 0, and those that are none.
func TestMayExpiry(t *testing.T) {
	for _, expiry := range edges() {
		l := with(lot(api.Released, 20), func(l *api.Lot) { l.Expiry = expiry })
		wantMay(t, product(100), l, 120, expiry, api.ErrOld)
		if expiry > math.MinInt {
			wantMay(t, product(100), l, 120, expiry-1, api.OK)
			wantMay(t, product(100), l, 120, math.MinInt, api.OK)
		}
		if expiry < math.MaxInt {
			wantMay(t, product(100), l, 120, expiry+1, api.ErrOld)
			wantMay(t, product(100), l, 120, math.MaxInt, api.ErrOld)
		}
	}
}

// P14.1, rule 1: not released, old, and over, each alone, any two of these, and all three: the one that is named first is told.
func TestMayOrder(t *testing.T) {
	p := product(100)
	wantMay(t, p, lot(api.Released, 20), 120, 900, api.ErrOld)
	wantMay(t, p, lot(api.Released, 20), 121, 899, api.ErrOver)
	wantMay(t, p, lot(api.Released, 20), 121, 900, api.ErrOld)
	for _, s := range statuses() {
		if s == api.Released {
			continue
		}
		for _, l := range []api.Lot{lot(s, 20), without(lot(s, 20))} {
			wantMay(t, p, l, 120, 899, api.ErrState)
			wantMay(t, p, l, 120, 900, api.ErrState)
			wantMay(t, p, l, 121, 899, api.ErrState)
			wantMay(t, p, l, 121, 900, api.ErrState)
		}
	}
}

// P14.1, J2: what is in quarantine is released, with its order, and with its grant as it is, if it is not over.
func TestRelease(t *testing.T) {
	p := product(100)
	for _, exposure := range []int{math.MinInt, -1, 0, 119, 120} {
		wantDone(t, release, p, lot(api.Quarantine, 20), exposure, 0, lot(api.Released, 20), api.OK)
		wantDone(t, release, p, without(lot(api.Quarantine, 20)), exposure, 0, without(lot(api.Released, 20)), api.OK)
	}
	for _, exposure := range []int{121, 122, most, most + 1, math.MaxInt} {
		wantError(t, release, p, lot(api.Quarantine, 20), exposure, 0, api.ErrOver)
	}
	for _, grant := range edges() {
		allowance := sum(100, grant)
		wantDone(t, release, p, lot(api.Quarantine, grant), allowance, 0, lot(api.Released, grant), api.OK)
		wantError(t, release, p, lot(api.Quarantine, grant), allowance+1, 0, api.ErrOver)
	}
	wantDone(t, release, api.Product{}, api.Lot{}, 0, 0, api.Lot{Status: api.Released}, api.OK)
	wantError(t, release, api.Product{}, api.Lot{}, 1, 0, api.ErrOver)
}

// P14.1, J2: what is released already, or held, rejected, or shipped, is not released, whether it is over or not; nor what has no status.
func TestReleaseErrors(t *testing.T) {
	p := product(100)
	for _, exposure := range []int{0, 120, 121, math.MaxInt} {
		for _, s := range []api.Status{api.Released, api.Held, api.Rejected, api.Shipped} {
			wantError(t, release, p, lot(s, 20), exposure, 0, api.ErrState)
			wantError(t, release, p, without(lot(s, 20)), exposure, 0, api.ErrState)
		}
		for _, s := range noStatuses() {
			wantError(t, release, p, lot(s, 20), exposure, 0, api.ErrArg)
		}
	}
}

// P14.1, J2: what is in quarantine, released, or held already, is held, and what is so is rejected, neither with an order; all else is as it was, whatever its grant.
func TestHoldAndReject(t *testing.T) {
	for name, next := range map[string]api.Status{hold: api.Held, reject: api.Rejected} {
		for _, s := range []api.Status{api.Quarantine, api.Released, api.Held} {
			for _, grant := range edges() {
				wantDone(t, name, api.Product{}, lot(s, grant), 0, 0, without(lot(next, grant)), api.OK)
				wantDone(t, name, api.Product{}, without(lot(s, grant)), 0, 0, without(lot(next, grant)), api.OK)
			}
			wantDone(t, name, api.Product{}, api.Lot{Status: s}, 0, 0, api.Lot{Status: next}, api.OK)
			for _, order := range edges() {
				l := with(lot(s, 20), func(l *api.Lot) { l.Order = order })
				wantDone(t, name, api.Product{}, l, 0, 0, without(lot(next, 20)), api.OK)
			}
		}
		for _, s := range []api.Status{api.Rejected, api.Shipped} {
			wantError(t, name, api.Product{}, lot(s, 20), 0, 0, api.ErrState)
			wantError(t, name, api.Product{}, without(lot(s, 20)), 0, 0, api.ErrState)
		}
		for _, s := range noStatuses() {
			wantError(t, name, api.Product{}, lot(s, 20), 0, 0, api.ErrArg)
		}
	}
}

// P14.1, J2: what is held is released with a grant more; with just as much as it wants, and not with one less.
func TestReview(t *testing.T) {
	p := product(100)
	wantDone(t, review, p, lot(api.Held, 20), 120, 0, lot(api.Released, 20), api.OK)
	wantDone(t, review, p, lot(api.Held, 20), 0, 7, lot(api.Released, 27), api.OK)
	wantDone(t, review, p, without(lot(api.Held, 20)), 0, 7, without(lot(api.Released, 27)), api.OK)
	wantError(t, review, p, lot(api.Held, 20), 121, 0, api.ErrOver)
	wantError(t, review, p, lot(api.Held, 20), 130, 9, api.ErrOver)
	wantDone(t, review, p, lot(api.Held, 20), 130, 10, lot(api.Released, 30), api.OK)
	wantDone(t, review, p, lot(api.Held, 20), 130, 11, lot(api.Released, 31), api.OK)
	wantDone(t, review, p, lot(api.Held, 0), 101, 1, lot(api.Released, 1), api.OK)
	wantError(t, review, p, lot(api.Held, 0), 102, 1, api.ErrOver)
	wantDone(t, review, api.Product{}, api.Lot{Status: api.Held}, 1, 1, api.Lot{Status: api.Released, Grant: 1}, api.OK)
	wantError(t, review, api.Product{}, api.Lot{Status: api.Held}, 1, 0, api.ErrOver)
}

// P14.1, J2: a grant of 0, of the most, one below 0, one beyond the most, and others that may not be, of a lot that may be reviewed.
func TestReviewGrants(t *testing.T) {
	p := product(100)
	for _, grant := range []int{-1, -2, math.MinInt, -most, most + 1, most + 2, math.MaxInt} {
		wantError(t, review, p, lot(api.Held, 20), 0, grant, api.ErrArg)
		wantError(t, review, p, lot(api.Held, 20), 121, grant, api.ErrArg)
		wantError(t, review, p, lot(api.Held, 20), math.MaxInt, grant, api.ErrArg)
	}
	wantDone(t, review, p, lot(api.Held, 0), 100, 0, lot(api.Released, 0), api.OK)
	wantDone(t, review, p, lot(api.Held, 0), most, most, lot(api.Released, most), api.OK)
	wantDone(t, review, p, lot(api.Held, 20), most, most, lot(api.Released, most), api.OK)
	wantDone(t, review, p, lot(api.Held, 0), most, most-1, lot(api.Released, most-1), api.OK)
	wantDone(t, review, p, lot(api.Held, 0), most, most-100, lot(api.Released, most-100), api.OK)
	wantError(t, review, p, lot(api.Held, 0), most, most-101, api.ErrOver)
	wantError(t, review, p, lot(api.Held, 20), most+1, most, api.ErrOver)
	wantError(t, review, product(most), lot(api.Held, most), math.MaxInt, most, api.ErrOver)
}

// P14.1, J2: the grant that a lot has already may be below 0, or beyond the most: it is fitted, ahead of adding, and with what it comes to it is over or not.
func TestReviewGranted(t *testing.T) {
	p := product(100)
	wantDone(t, review, p, lot(api.Held, -5), 100, 0, lot(api.Released, 0), api.OK)
	wantDone(t, review, p, lot(api.Held, -5), 103, 3, lot(api.Released, 3), api.OK)
	wantError(t, review, p, lot(api.Held, -5), 104, 3, api.ErrOver)
	wantDone(t, review, p, lot(api.Held, math.MinInt), 0, most, lot(api.Released, most), api.OK)
	wantDone(t, review, p, lot(api.Held, most), 0, 0, lot(api.Released, most), api.OK)
	wantDone(t, review, p, lot(api.Held, most), 0, 1, lot(api.Released, most), api.OK)
	wantDone(t, review, p, lot(api.Held, most-1), 0, 1, lot(api.Released, most), api.OK)
	wantDone(t, review, p, lot(api.Held, most-1), 0, 2, lot(api.Released, most), api.OK)
	wantDone(t, review, p, lot(api.Held, most+1), most, 0, lot(api.Released, most), api.OK)
	wantDone(t, review, p, lot(api.Held, math.MaxInt), most, most, lot(api.Released, most), api.OK)
	wantError(t, review, p, lot(api.Held, math.MaxInt), most+1, most, api.ErrOver)
}

// P14.1, rule 1: where several errors apply to a review, the one that the chapter names first is told.
func TestReviewOrder(t *testing.T) {
	p := product(100)
	for _, exposure := range []int{0, 120, 121, math.MaxInt} {
		for _, s := range []api.Status{api.Quarantine, api.Released, api.Rejected, api.Shipped} {
			wantError(t, review, p, lot(s, 20), exposure, -1, api.ErrArg)
			wantError(t, review, p, lot(s, 20), exposure, most+1, api.ErrArg)
			wantError(t, review, p, lot(s, 20), exposure, 0, api.ErrState)
			wantError(t, review, p, lot(s, 20), exposure, 1, api.ErrState)
			wantError(t, review, p, without(lot(s, 20)), exposure, most, api.ErrState)
		}
		for _, s := range noStatuses() {
			wantError(t, review, p, lot(s, 20), exposure, -1, api.ErrArg)
			wantError(t, review, p, lot(s, 20), exposure, 0, api.ErrArg)
			wantError(t, review, p, lot(s, 20), exposure, most, api.ErrArg)
		}
	}
}

// P14.1: a lot's own numbers, and its product's, that are not asked for, are any, and stay as they were; so do stays that may not be.
func TestTheRest(t *testing.T) {
	for _, n := range edges() {
		p := api.Product{ID: n, Limit: -n, Budget: 100}
		for _, stays := range [][]api.Stay{nil, {}, {{Zone: n, From: n, To: n}}, {{}, {Zone: 1, From: 9, To: 2}}, where()} {
			as := func(s api.Status, order, grant int) api.Lot {
				return api.Lot{ID: n, Product: -n, Units: n, Expiry: n, Grant: grant, Order: order, Status: s, Stays: stays}
			}
			wantDone(t, release, p, as(api.Quarantine, n, 20), 120, 0, as(api.Released, n, 20), api.OK)
			wantDone(t, review, p, as(api.Held, n, 20), 125, 5, as(api.Released, n, 25), api.OK)
			for _, s := range []api.Status{api.Quarantine, api.Released, api.Held} {
				wantDone(t, hold, p, as(s, n, n), 121, 0, as(api.Held, 0, n), api.OK)
				wantDone(t, reject, p, as(s, n, n), 121, 0, as(api.Rejected, 0, n), api.OK)
			}
			wantJudge(t, p, as(api.Released, n, 20), 121, as(api.Held, 0, 20), true)
			wantJudge(t, p, as(api.Released, n, 20), 120, as(api.Released, n, 20), false)
		}
	}
}

// P14.1: all statuses by all edges, against the words.
func TestByWords(t *testing.T) {
	d := dice(14)
	for _, s := range statuses() {
		for range 4000 {
			p, l := product(d.one(edges()...)), lot(s, d.one(edges()...))
			l.Order, l.Expiry = d.one(0, 1, 5), d.one(edges()...)
			exposure, grant, now := near(&d, sum(p.Budget, l.Grant)), d.one(edges()...), near(&d, l.Expiry)
			wantAllowance(t, p, l, sum(p.Budget, l.Grant))
			wantMay(t, p, l, exposure, now, mayByWords(p, l, exposure, now))
			held, is := judgeByWords(p, l, exposure)
			wantJudge(t, p, l, exposure, held, is)
			for _, name := range names() {
				at := near(&d, d.one(exposure, sum(p.Budget, sum(l.Grant, grant))))
				want, e := byWords(name, p, l, at, grant)
				wantDone(t, name, p, l, at, grant, want, e)
			}
		}
	}
}

// near is a number that is close to another one, or any edge.
func near(d *dice, n int) int {
	switch by := d.below(5) - 2; {
	case d.below(4) == 0:
		return d.one(edges()...)
	case by < 0 && n < math.MinInt+2, by > 0 && n > math.MaxInt-2:
		return n
	default:
		return n + by
	}
}

// small are all products and lots of small numbers, of every status.
func small(each func(p api.Product, l api.Lot)) {
	for budget := -1; budget < 4; budget++ {
		for grant := -1; grant < 4; grant++ {
			for _, s := range statuses() {
				l := lot(s, grant)
				l.Expiry = 2
				each(product(budget), l)
			}
		}
	}
}

// wantNotOver wants a lot not to be released and over, as its numbers say it.
func wantNotOver(t *testing.T, what string, p api.Product, l api.Lot, exposure int) {
	t.Helper()
	if l.Status == api.Released && exposure > sum(p.Budget, l.Grant) {
		t.Errorf("%s: %v is released, by %v, and has gone through %d", what, l, p, exposure)
	}
}

// P14.2: behind Judge, Release, and Review, no lot is released and over, and none may be shipped that is.
func TestNeverOver(t *testing.T) {
	small(func(p api.Product, l api.Lot) {
		for exposure := -1; exposure < 10; exposure++ {
			judged, _ := keep.Judge(p, l, exposure)
			wantNotOver(t, "Judge", p, judged, exposure)
			if released, e := keep.Release(p, l, exposure); e == api.OK {
				wantNotOver(t, release, p, released, exposure)
			}
			for grant := -1; grant < 5; grant++ {
				if accepted, e := keep.Review(p, l, exposure, grant); e == api.OK {
					wantNotOver(t, review, p, accepted, exposure)
				}
			}
			for now := -1; now < 4; now++ {
				if e := keep.May(p, l, exposure, now); e == api.OK && (l.Status != api.Released || now >= 2 || over(p, l, exposure)) {
					t.Errorf("%v may be shipped, by %v, at %d, now %d", l, p, exposure, now)
				}
			}
		}
	})
}

// done is what can be done with a lot; that it is judged, and not held, is one such thing.
func done(p api.Product, l api.Lot, exposure, grant, now int) (all []string) {
	if _, held := keep.Judge(p, l, exposure); !held {
		all = append(all, "Judge")
	}
	if keep.May(p, l, exposure, now) == api.OK {
		all = append(all, "May")
	}
	for _, name := range names() {
		if _, e := do(name, p, l, exposure, grant); e == api.OK {
			all = append(all, name)
		}
	}
	return all
}

// nothingMore tells whether all that can be done here can be done there, too.
func nothingMore(here, there []string) bool {
	for _, name := range here {
		if !slices.Contains(there, name) {
			return false
		}
	}
	return true
}

// P14.2: a greater exposure lets nothing more be done, of all that are small.
func TestGreaterExposure(t *testing.T) {
	small(func(p api.Product, l api.Lot) {
		for grant := range 4 {
			for now := range 3 {
				for exposure := -1; exposure < 10; exposure++ {
					less, more := done(p, l, exposure, grant, now), done(p, l, exposure+1, grant, now)
					if !nothingMore(more, less) {
						t.Errorf("%v, by %v, grant %d, now %d: at %d %v, and at one more %v", l, p, grant, now, exposure, less, more)
					}
				}
			}
		}
	})
}

// P14.2: a greater grant lets nothing less be done, one that a lot has, and one that it is given, of all that are small.
func TestGreaterGrant(t *testing.T) {
	small(func(p api.Product, l api.Lot) {
		for grant := range 4 {
			for exposure := range 10 {
				less := done(p, l, exposure, grant, 1)
				given := done(p, l, exposure, grant+1, 1)
				had := done(p, with(l, func(l *api.Lot) { l.Grant++ }), exposure, grant, 1)
				if !nothingMore(less, given) || !nothingMore(less, had) {
					t.Errorf("%v, by %v, at %d, grant %d: %v, with one more %v, having one more %v", l, p, exposure, grant, less, given, had)
				}
			}
		}
	})
}

// P14.2: likewise with great numbers, far from one another.
func TestGreaterByFar(t *testing.T) {
	d := dice(2)
	for range 40000 {
		p, l := product(d.one(edges()...)), lot(api.Status(d.below(6)), d.one(edges()...))
		l.Expiry = 2
		exposure, other := d.one(edges()...), d.one(edges()...)
		grant, more := min(max(d.one(edges()...), 0), most), min(max(d.one(edges()...), 0), most)
		if !nothingMore(done(p, l, max(exposure, other), grant, 1), done(p, l, min(exposure, other), grant, 1)) {
			t.Errorf("%v, by %v, grant %d: more can be done at the greater one of %d and %d", l, p, grant, exposure, other)
		}
		if !nothingMore(done(p, l, exposure, min(grant, more), 1), done(p, l, exposure, max(grant, more), 1)) {
			t.Errorf("%v, by %v, at %d: less can be done with the greater one of %d and %d", l, p, exposure, grant, more)
		}
		having := with(l, func(l *api.Lot) { l.Grant = max(l.Grant, more) })
		if !nothingMore(done(p, l, exposure, grant, 1), done(p, having, exposure, grant, 1)) {
			t.Errorf("%v, by %v, at %d, grant %d: less can be done with %d", l, p, exposure, grant, having.Grant)
		}
	}
}

// P14.2: whatever is done with a lot, while its exposure rises: judged by that it is not over, if it is released; what it has goes the way of the words.
func TestLongWays(t *testing.T) {
	d := dice(7)
	shipped, held, accepted := 0, 0, 0
	for range 3000 {
		p, l, exposure := product(d.below(40)), lot(api.Quarantine, 0), 0
		for now := range 30 {
			exposure += d.below(8)
			want, is := judgeByWords(p, l, exposure)
			wantJudge(t, p, l, exposure, want, is)
			l, is = keep.Judge(p, l, exposure)
			wantNotOver(t, "Judge", p, l, exposure)
			if is {
				held++
			}
			if e := keep.May(p, l, exposure, now); e == api.OK {
				wantNotOver(t, "May", p, l, exposure)
				shipped++
			}
			name, grant := names()[d.one(0, 1, 0, 2, 2, 0, 2, 1, 2, 3)], d.below(20)-1
			if name == reject && d.below(5) > 0 {
				continue
			}
			next, e := do(name, p, l, exposure, grant)
			wantDone(t, name, p, l, exposure, grant, next, e)
			if e != api.OK {
				continue
			}
			if l = next; name == review {
				accepted++
			}
			wantNotOver(t, name, p, l, exposure)
		}
	}
	if shipped < 1000 || held < 300 || accepted < 1000 {
		t.Errorf("%d may be shipped, %d were held, %d accepted: too few to tell", shipped, held, accepted)
	}
}

// spoil writes into all memory of stays.
func spoil(l []api.Stay) {
	for i := range l[:cap(l)] {
		l[:cap(l)][i] = api.Stay{Zone: -7, From: -7, To: -7}
	}
}

// answers are all ways to come by a lot: what is handed in, and what answers one by it.
func answers() map[string]func(stays []api.Stay) api.Lot {
	p := product(100)
	of := func(s api.Status, stays []api.Stay) api.Lot {
		return with(lot(s, 20), func(l *api.Lot) { l.Stays = stays })
	}
	judge := func(s api.Status, exposure int) func(stays []api.Stay) api.Lot {
		return func(stays []api.Stay) api.Lot {
			l, _ := keep.Judge(p, of(s, stays), exposure)
			return l
		}
	}
	all := map[string]func(stays []api.Stay) api.Lot{"Judge, held": judge(api.Released, 121), "Judge, not over": judge(api.Released, 120), "Judge, not released": judge(api.Held, 121), "Judge, no status": judge(9, 121)}
	for _, name := range names() {
		for s := range api.Status(5) {
			if _, there := behind(name, s); there {
				all[fmt.Sprint(name, " of ", s)] = func(stays []api.Stay) api.Lot {
					l, _ := do(name, p, of(s, stays), 120, 3)
					return l
				}
			}
		}
	}
	return all
}

// Rule 4: what is handed in is not written into, nor kept, what lies behind it is not looked at; what is answered is new memory, of each answer.
func TestNewMemory(t *testing.T) {
	all := answers()
	if len(all) != 4+8 {
		t.Fatalf("%d ways to come by a lot, not 12", len(all))
	}
	for what, ask := range all {
		for _, beyond := range []api.Stay{{}, {Zone: 4, From: 77, To: -1}, {Zone: -1, From: -1, To: -1}} {
			memory := append(where(), beyond, beyond)
			was := slices.Clone(memory)
			handed := memory[:3]
			one, other := ask(handed), ask(handed)
			if !slices.Equal(memory, was) || !slices.Equal(one.Stays, where()) || !slices.Equal(other.Stays, where()) {
				t.Fatalf("%s: %v, %v, and what was handed in is %v", what, one.Stays, other.Stays, memory)
			}
			spoil(one.Stays)
			if !slices.Equal(memory, was) || !slices.Equal(other.Stays, where()) {
				t.Errorf("%s: an answer shares memory with what was handed in, or with another answer", what)
			}
			spoil(memory)
			if !slices.Equal(other.Stays, where()) || !slices.Equal(ask(where()).Stays, where()) {
				t.Errorf("%s: what was handed in was kept", what)
			}
		}
		if l := ask(nil); len(l.Stays) != 0 {
			t.Errorf("%s: without stays %v", what, l.Stays)
		}
		memory := where()
		l := ask(memory[:0])
		if spoil(l.Stays); len(l.Stays) != 0 || !slices.Equal(memory, where()) {
			t.Errorf("%s: of a list without elements %v, and behind it stands %v", what, l.Stays, memory)
		}
	}
}

// Rule 4: with an error, and where no lot is answered, what is handed in stays as it was, too.
func TestNothingIsWritten(t *testing.T) {
	for _, s := range statuses() {
		for _, exposure := range []int{0, 121} {
			memory := where()
			l := with(lot(s, 20), func(l *api.Lot) { l.Stays = memory })
			keep.Allowance(product(100), l)
			keep.May(product(100), l, exposure, 5)
			keep.Judge(product(100), l, exposure)
			for _, name := range names() {
				do(name, product(100), l, exposure, -1)
				do(name, product(100), l, exposure, 0)
			}
			if !slices.Equal(memory, where()) {
				t.Errorf("status %d, at %d: what was handed in is %v", s, exposure, memory)
			}
		}
	}
}

// P1, P2: each call ends, at whatever it is given, and answers the same again, whatever was asked between.
func TestAgain(t *testing.T) {
	ask := func() (l []string) {
		for _, n := range edges() {
			for _, m := range edges() {
				x := with(lot(api.Status(n), m), func(l *api.Lot) { l.Expiry, l.Order = n, m })
				for _, s := range []api.Status{api.Status(n), 0, 1, 2, 3, 4} {
					x.Status = s
					judged, held := keep.Judge(product(n), x, m)
					l = append(l, fmt.Sprint(keep.Allowance(product(n), x), judged, held, keep.May(product(m), x, n, m)))
					for _, name := range names() {
						behind, e := do(name, product(m), x, n, m)
						l = append(l, fmt.Sprint(behind, e))
					}
				}
			}
		}
		return l
	}
	first := ask()
	for range 2 {
		if again := ask(); !slices.Equal(again, first) {
			t.Fatal("asked again, another answer")
		}
	}
}
