package house_test

import (
	"fmt"
	"math"
	"slices"
	"testing"

	"hoarfrost/api"
	"hoarfrost/house"
)

// stay is minutes in a zone; on one that goes on.
func stay(zone, from, to int) api.Stay { return api.Stay{Zone: zone, From: from, To: to} }

func on(zone, from int) api.Stay { return stay(zone, from, -1) }

// torn is a state at minute 20, with orders 1 (open), 2 (allocated) and 3 (shipped), and with lots 1, of that status and order, and 2, which is released, and has that order, too. Lot 1 has gone through that much, and may go through 100.
func torn(st api.Status, order, exposure int) house.State {
	s := house.State{
		Now: 20, Given: 2,
		Zones:    []api.Zone{{ID: 1, Worst: 40, Room: 20, Dock: true}},
		Products: []api.Product{{ID: 1, Limit: 40, Budget: 80}},
		Readings: [][]api.Reading{{{Minute: 3, Tenths: 40 + exposure}}},
		Marks:    [][]api.Mark{nil},
		Lots: []api.Lot{
			{ID: 1, Product: 1, Units: 5, Expiry: 90, Grant: 20, Order: order, Status: st, Stays: []api.Stay{on(1, 2)}},
			{ID: 2, Product: 1, Units: 5, Expiry: 90, Order: order, Status: api.Released, Stays: []api.Stay{on(1, 7)}},
		},
		Orders: []api.Order{{ID: 1, Product: 1, Units: 10}, {ID: 2, Product: 1, Units: 10, State: allocated}, {ID: 3, Product: 1, Units: 10, State: shipped}},
	}
	if st == api.Shipped {
		s.Lots[0].Stays[0].To = 9
	}
	return s
}

// turned is what is wanted of such a lot 1, whose status is that one, when it was settled, by what is done.
func turned(st api.Status, isOver bool, c api.Command) (api.Status, api.Errno) {
	may := map[api.Kind][]api.Status{api.Release: {api.Quarantine}, api.Review: {api.Held}, api.Hold: {api.Quarantine, api.Released, api.Held}, api.Reject: {api.Quarantine, api.Released, api.Held}}
	becomes := map[api.Kind]api.Status{api.Release: api.Released, api.Review: api.Released, api.Hold: api.Held, api.Reject: api.Rejected}
	switch {
	case !slices.Contains(may[c.Kind], st):
		return 0, api.ErrState
	case isOver && becomes[c.Kind] == api.Released:
		return 0, api.ErrOver
	}
	return becomes[c.Kind], api.OK
}

// P19.1, Release, Hold, Review, Reject: of a lot in each state, over and not, without an order, and with one that is open, allocated, or shipped.
func TestTurn(t *testing.T) {
	for st := api.Quarantine; st <= api.Shipped; st++ {
		for order := range 4 {
			for _, exposure := range []int{0, 100, 101} {
				for _, c := range []api.Command{release(1), hold(1), review(1, 0), reject(1)} {
					turn(made(t, torn(st, order, exposure)), st, order, exposure > 100, c)
				}
			}
		}
	}
}

func turn(p pair, st api.Status, order int, isOver bool, c api.Command) {
	p.t.Helper()
	before := st
	isHeld := st == api.Released && isOver
	if isHeld {
		before = api.Held
	}
	after, e := turned(before, isOver, c)
	if e != api.OK {
		p.no(e, c)
		p.is(1, st, order)
		p.is(2, api.Released, order)
		return
	}
	p.ok(0, c)
	mine, its, state := order, order, order-1
	if isHeld || after != api.Released {
		mine = 0
		if order == 2 {
			its, state = 0, open
		}
	}
	p.is(1, after, mine)
	p.is(2, api.Released, its)
	if order > 0 {
		p.stands(order, state)
	}
}

// P19.1, Release, Hold, Review, Reject: of a lot that is not there, ahead of all else.
func TestTurnNone(t *testing.T) {
	p := made(t, torn(api.Held, 2, 0))
	for _, id := range append(wild(), 3) {
		p.no(api.ErrNone, release(id), hold(id), review(id, 0), review(id, -1), reject(id))
	}
}

// P19.1, Review: the grant, added to the one that the lot has; 14's errors.
func TestReview(t *testing.T) {
	p := made(t, torn(api.Held, 0, 131))
	for _, n := range []int{-1, math.MinInt, most + 1, math.MaxInt} {
		p.no(api.ErrArg, review(1, n), review(2, n))
	}
	p.no(api.ErrState, review(2, 0), review(2, most))
	p.no(api.ErrOver, review(1, 0), review(1, 30))
	p.ok(0, review(1, 31))
	if l := p.lot(1); l.Grant != 51 || l.Status != api.Released {
		t.Errorf("lot 1: %v", l)
	}
	p.ok(0, hold(1), review(1, 0), hold(1), review(1, most), hold(1), review(1, most))
	if l := p.lot(1); l.Grant != most {
		t.Errorf("lot 1: %v", l)
	}
	p.ok(3, receive(1, 1, 1, 50))
	p.no(api.ErrState, review(3, 5))
	p.no(api.ErrState, release(2), release(1))
}

// P19.1, Allocate: those first that end first, the last one in part.
func TestAllocate(t *testing.T) {
	p := stocked(t)
	p.ok(1, want(1, 7))
	p.ok(2, allocate(1))
	p.is(2, api.Released, 1)
	p.is(5, api.Released, 1)
	p.is(1, api.Released, 0)
	if a, b := p.lot(1), p.lot(5); a.Units != 4 || b.Units != 2 || b.Expiry != 50 || !slices.Equal(b.Stays, a.Stays) {
		t.Errorf("%v, %v", a, b)
	}
	p.stands(1, allocated)
	for _, id := range append(wild(), 2, 64, 65) {
		p.no(api.ErrNone, allocate(id))
	}
	p.no(api.ErrState, allocate(1))
	p.ok(2, want(1, 9))
	p.no(api.ErrShort, allocate(2)) // those of another order are none
	p.ok(3, want(1, 8))
	p.ok(2, allocate(3)) // just as many as there are
	p.is(1, api.Released, 3)
	p.is(3, api.Released, 3)
	p.no(api.ErrShort, allocate(2))
	p.ok(4, want(2, 10))
	p.ok(1, allocate(4))
	p.ok(2, ship(1))
	p.no(api.ErrState, allocate(1), allocate(3))
	if n := p.h.Dump().Given; n != 5 {
		t.Errorf("%d lots came", n)
	}
}

// P19.1, Allocate: of lots some of which may not be; just the others are picked.
func TestAllocateMay(t *testing.T) {
	for _, spoil := range [][]api.Command{{hold(2)}, {reject(2)}, {want(1, 5), allocate(2)}, {move(2, 3), tick(11)}, {tick(25)}, {hold(2), review(2, 5), reject(2)}} {
		p := stocked(t)
		p.ok(1, want(1, 11))
		p.ok(byWords, spoil...)
		p.no(api.ErrShort, allocate(1))
		q := stocked(t)
		q.ok(1, want(1, 10))
		q.ok(byWords, spoil...)
		q.ok(2, allocate(1))
		q.is(1, api.Released, 1)
		q.is(3, api.Released, 1)
	}
	for _, keep := range [][]api.Command{{move(2, 3), tick(10)}, {tick(24)}, {hold(2), review(2, 0)}, {want(1, 5), allocate(2), free(2)}, {want(1, 5), allocate(2), hold(2), review(2, 0)}, {move(2, 2)}} {
		p := stocked(t)
		p.ok(1, want(1, 5))
		p.ok(byWords, keep...)
		p.ok(1, allocate(1))
		p.is(2, api.Released, 1)
		if n := len(p.h.Dump().Lots); n != 4 {
			t.Errorf("%v: %d lots", keep, n)
		}
	}
}

// P19.1, Allocate: what is in quarantine is not picked; what went over by a frame neither.
func TestAllocateOver(t *testing.T) {
	p := stocked(t)
	p.ok(5, receive(1, 1, 9, 9))
	p.ok(1, want(1, 7))
	p.ok(0, move(2, 3))
	p.ok(15, tick(10))
	p.ok(1, air(3, 8, 0, 60)) // six minutes of 20, and four of 10
	p.exposed(2, 160)
	p.ok(2, allocate(1)) // lot 1 whole, and 1 unit of lot 3
	p.is(2, api.Held, 0)
	p.is(5, api.Quarantine, 0)
	p.is(6, api.Released, 1)
}

// P19.1, Free: the order is open, and none of its lots has it; 16's errors.
func TestFree(t *testing.T) {
	p := stocked(t)
	p.ok(1, want(1, 7))
	p.ok(2, want(1, 3))
	p.no(api.ErrState, free(1))
	p.ok(2, allocate(1))
	p.ok(1, allocate(2))
	for _, id := range append(wild(), 3, 64, 65) {
		p.no(api.ErrNone, free(id))
	}
	p.ok(7, split(2, 1)) // what is split off has the order, too
	p.ok(0, free(1))
	p.stands(1, open)
	p.stands(2, allocated)
	for _, id := range []int{1, 2, 3, 5, 7} {
		p.is(id, api.Released, 0)
	}
	p.is(6, api.Released, 2)
	p.no(api.ErrState, free(1))
	p.ok(1, ship(2))
	p.no(api.ErrState, free(2))
	p.ok(4, allocate(1)) // lots 2, 7 and 1 whole, and 1 unit of lot 3, which is lot 8
	p.is(8, api.Released, 1)
	p.ok(0, merge(2, 7), free(1))
}

// P19.1, Ship: each of the order's lots has a certificate, is shipped, and has left.
func TestShip(t *testing.T) {
	p := stocked(t)
	p.ok(0, move(2, 3))
	p.ok(8, tick(3))
	p.ok(0, move(2, 1), hold(2), review(2, 7))
	p.ok(1, want(1, 7))
	p.ok(2, allocate(1))
	p.ok(9, tick(1))
	p.ok(0, move(5, 3))
	p.ok(2, ship(1))
	s := p.h.Dump()
	if fmt.Sprint(s.Certs) != "[{1 1 2 1 5 9 30 107} {2 1 5 1 2 9 0 100}]" {
		t.Errorf("Certs: %v", s.Certs)
	}
	if a, b := p.lot(2), p.lot(5); fmt.Sprint(a, b) != "{2 1 5 30 7 1 4 [{1 0 5} {3 5 8} {1 8 9}]} {5 1 2 50 0 1 4 [{1 0 9}]}" {
		t.Errorf("%v %v", a, b)
	}
	p.stands(1, shipped)
	for _, id := range append(wild(), 2, 64, 65) {
		p.no(api.ErrNone, ship(id))
	}
	p.no(api.ErrState, ship(1), release(2), hold(2), review(2, 1), reject(2), free(1), allocate(1))
	p.ok(10, tick(1))
	p.ok(3, want(2, 10), want(1, 4))
	p.ok(byWords, want(1, 1), allocate(2))
	p.no(api.ErrState, ship(3), ship(4))
	p.ok(1, ship(2))
	if l := p.h.Dump().Certs; len(l) != 3 || fmt.Sprint(l[2]) != "{3 2 4 2 10 10 0 0}" {
		t.Errorf("Certs: %v", l)
	}
	p.exposed(2, 30)
}

// P19.1, Ship: of a lot that came just now, that was nowhere in any time.
func TestShipAtOnce(t *testing.T) {
	p := furnished(t)
	p.ok(7, tick(7))
	p.ok(1, receive(1, 3, 4, 9), release(1), want(1, 4), allocate(1), ship(1))
	if l := p.lot(1); l.Status != api.Shipped || len(l.Stays) != 0 {
		t.Errorf("lot 1: %v", l)
	}
	p.exposed(1, 0)
	p.ok(2, receive(1, 2, 60, 9)) // what left needs no room
}

// toShip is a house at minute 5, with order 1 that has lots 1, 2 and 3 of 15 units.
func toShip(t *testing.T) pair {
	t.Helper()
	p := stocked(t)
	p.ok(3, want(1, 15), allocate(1))
	return p
}

// P19.1, Ship: of the first of the lots that has an error; of one that has two 14's.
func TestShipErrors(t *testing.T) {
	p := toShip(t)
	p.ok(2, want(1, 1))
	p.no(api.ErrState, ship(2))
	p.ok(0, move(3, 2))
	p.no(api.ErrDock, ship(1))
	p.ok(0, move(3, 1))
	p.ok(29, tick(24))
	p.ok(0, move(2, 2))
	p.no(api.ErrDock, ship(1))
	p.ok(30, tick(1))
	p.no(api.ErrOld, ship(1)) // lot 2, which stands at no dock either
	p.ok(0, move(1, 2))
	p.no(api.ErrDock, ship(1)) // lot 1 comes first
	p.ok(0, move(1, 1), move(2, 1), move(3, 2))
	p.no(api.ErrOld, ship(1)) // lot 3 comes last
	p.ok(0, free(1))
}

// P19.1, Ship: one that is over, by what a frame told since it was allocated, is held ahead of it, so that the order is open; and then all is as it was.
func TestShipOver(t *testing.T) {
	p := toShip(t)
	p.ok(1, air(1, 2, 0, 74)) // minutes 2 to 4, 34 each
	p.no(api.ErrState, ship(1), free(1))
	for id := 1; id < 4; id++ {
		p.is(id, api.Released, 1)
	}
	p.stands(1, allocated)
	p.ok(0, air(1, 2, 0, 73))
	p.ok(1, air(1, 2, 1, 73)) // 33 each
	p.ok(3, ship(1))
}

// P19.1, Ship: of houses that were made so: a lot that is not released, one that shares the order with what is shipped, and an order without lots.
func TestShipMade(t *testing.T) {
	for _, st := range []api.Status{api.Quarantine, api.Held, api.Rejected, api.Shipped} {
		p := made(t, torn(st, 2, 0))
		p.no(api.ErrState, ship(2))
		p.ok(0, free(2))
		p.is(1, st, 0)
		p.is(2, api.Released, 0)
	}
	for _, order := range []int{0, 1, 3} {
		p := made(t, torn(api.Released, order, 0))
		p.ok(0, ship(2))
		p.stands(2, shipped)
	}
	p := made(t, torn(api.Released, 2, 100))
	p.ok(2, ship(2))
	p.no(api.ErrState, ship(1), ship(3))
}

// P19.1, Allocate: of a house that was made so: lots that have an open order already are its lots still, but not picked.
func TestAllocateMade(t *testing.T) {
	s := torn(api.Released, 1, 0)
	s.Given = 3
	s.Lots = append(s.Lots, api.Lot{ID: 3, Product: 1, Units: 10, Expiry: 90, Status: api.Released, Stays: []api.Stay{on(1, 7)}})
	p := made(t, s)
	p.ok(1, allocate(1))
	p.is(1, api.Released, 1)
	p.ok(3, ship(1))
}

// warmed is such a house, whose lot 1, of those of order 1, is over by a frame that came just now, and alone, as it was in zone 3.
func warmed(t *testing.T) pair {
	t.Helper()
	p := stocked(t)
	p.ok(3, want(2, 10), want(1, 3), want(1, 15))
	p.ok(3, allocate(3))
	p.ok(8, move(1, 3), tick(3))
	p.ok(1, air(3, 5, 0, 74))
	p.exposed(1, 102)
	return p
}

// P19.1, the house is settled: what is over is held, its order is let go, and the order's other lots have none; Sense settles nothing, whatever it tells.
func TestSettle(t *testing.T) {
	p := warmed(t)
	p.ok(0, air(3, 5, 0, 74))
	p.ok(1, air(3, 5, 1, 75), door(3, 1, 1, true))
	for id := 1; id < 4; id++ {
		p.is(id, api.Released, 3)
	}
	p.stands(3, allocated)
	p.ok(9, tick(1))
	p.is(1, api.Held, 0)
	p.is(2, api.Released, 0)
	p.is(3, api.Released, 0)
	p.is(4, api.Released, 0)
	p.stands(3, open)
	p.stands(1, open)
}

// P19.1: each kind but Sense settles the house ahead of what it does; with an error nothing of that stays.
func TestSettleKinds(t *testing.T) {
	for _, c := range []api.Command{tick(1), addZone(api.Zone{ID: 9}), addProduct(9, 1, 1), receive(1, 1, 1, 1), move(1, 2), split(1, 1), release(5), hold(2), hold(1), review(1, 100), reject(1), reject(2), want(1, 1), allocate(1), allocate(2), merge(6, 7), free(4), ship(5)} {
		p := begun(t)
		p.ok(byWords, c)
		if l := p.lot(2); l.Order != 0 {
			t.Errorf("%v: lot 2: %v", c, l)
		}
		if l := p.lot(1); l.Order != 0 || c.Kind != api.Review && c.Kind != api.Reject && l.Status != api.Held {
			t.Errorf("%v: lot 1: %v", c, l)
		}
	}
	for _, c := range []api.Command{tick(0), addZone(api.Zone{}), addProduct(1, 1, 1), receive(9, 1, 1, 1), move(1, 9), split(1, 6), merge(1, 2), release(2), hold(99), review(1, 0), review(2, 0), reject(99), want(9, 1), allocate(99), allocate(4), free(3), free(1), ship(3), ship(1), sense(nil), air(3, 99, 0, 9)} {
		p := begun(t)
		n, e := p.try(c)
		if e == api.OK || n != 0 {
			t.Errorf("%v: %d, error %d", c, n, e)
		}
		p.is(1, api.Released, 3)
		p.is(2, api.Released, 3)
		p.stands(3, allocated)
	}
}

// begun is a warmed house with more in it: lot 5 is in quarantine, lots 6 and 7 are alike, order 4 is allocated, with lot 8, and order 5, with lot 9.
func begun(t *testing.T) pair {
	t.Helper()
	p := stocked(t)
	p.ok(9, receive(1, 1, 1, 70), receive(1, 1, 1, 71), receive(1, 1, 1, 71), receive(1, 1, 3, 10), receive(1, 1, 3, 9))
	p.ok(5, want(2, 10), want(1, 3), want(1, 15), want(1, 3), want(1, 3))
	p.ok(0, release(9))
	p.ok(1, allocate(5))
	p.ok(0, release(8))
	p.ok(1, allocate(4))
	p.ok(3, allocate(3))
	p.ok(0, release(6), release(7))
	p.ok(8, move(1, 3), tick(3))
	p.ok(1, air(3, 5, 0, 74))
	return p
}

// P19.1: a lot is held just if it is over, by its budget and its grant; without an order, too.
func TestSettleEnds(t *testing.T) {
	p := stocked(t)
	p.ok(0, hold(2), review(2, 1), move(1, 3), move(2, 3), move(4, 3))
	p.ok(15, tick(10))
	p.exposed(1, 100)
	p.ok(0, move(3, 1))
	p.is(1, api.Released, 0)
	p.is(4, api.Held, 0)
	p.ok(1, air(3, 14, 0, 51))
	p.exposed(1, 101)
	p.ok(0, move(3, 1))
	p.is(1, api.Held, 0)
	p.is(2, api.Released, 0)
	p.ok(1, air(3, 14, 1, 52))
	p.ok(0, move(3, 1))
	p.is(2, api.Held, 0)
}

// P19.1: the house is settled at NOW as it is ahead of a Tick, not as it is behind it.
func TestSettleTick(t *testing.T) {
	p := stocked(t)
	p.ok(0, move(1, 3))
	p.ok(1, want(1, 15))
	p.ok(3, allocate(1))
	p.ok(45, tick(40))
	p.exposed(1, 400)
	p.is(1, api.Released, 1)
	p.stands(1, allocated)
	p.ok(46, tick(1))
	p.is(1, api.Held, 0)
	p.stands(1, open)
}

// P19.1: what is in quarantine, held, rejected or shipped is not held, however over it is; a lot that is over can't be released, nor accepted without a grant.
func TestSettleOthers(t *testing.T) {
	p := toShip(t)
	p.ok(5, receive(1, 1, 1, 70))
	p.ok(7, receive(1, 1, 1, 71), receive(1, 1, 1, 71))
	p.ok(0, hold(6), reject(7))
	p.ok(3, ship(1))
	p.ok(15, tick(10))
	p.ok(1, air(1, 1, 0, 999), air(1, 7, 0, 999))
	p.ok(16, tick(1))
	p.is(5, api.Quarantine, 0)
	p.is(6, api.Held, 0)
	p.is(7, api.Rejected, 0)
	p.is(1, api.Shipped, 1)
	p.is(4, api.Held, 0)
	p.no(api.ErrOver, release(5), review(6, 0))
	p.ok(0, review(6, most), hold(5))
	p.flags(1, 2, 3)
}

// P19.1: two lots of one order, and one of another order, and one of none, are held at once; an order none of whose lots is held stays.
func TestSettleOrders(t *testing.T) {
	p := stocked(t)
	p.ok(3, want(1, 8), want(1, 2), want(1, 1))
	p.ok(2, allocate(1)) // lot 2, and 3 units of lot 1, which is lot 5
	p.ok(1, allocate(2)) // 2 units of lot 1, which is lot 6
	p.ok(1, allocate(3)) // 1 unit: lot 1 whole
	p.ok(0, move(2, 3), move(5, 3), move(6, 3), move(3, 3))
	p.ok(6, tick(1))
	p.ok(1, air(3, 5, 0, 999))
	p.ok(4, want(1, 4))
	for _, id := range []int{2, 3, 5, 6} {
		p.is(id, api.Held, 0)
	}
	p.is(1, api.Released, 3)
	p.stands(1, open)
	p.stands(2, open)
	p.stands(3, allocated)
}

// P19.1: what an order that is let go had may be picked at once, for that order, too.
func TestSettleFirst(t *testing.T) {
	p := warmed(t)
	p.no(api.ErrState, free(3), ship(3))
	p.no(api.ErrShort, allocate(3))
	p.ok(1, allocate(2)) // 3 units of lot 2, which order 3 had
	p.is(5, api.Released, 2)
	q := warmed(t)
	q.ok(0, hold(2))
	q.is(1, api.Held, 0)
	q.is(3, api.Released, 0)
	r := warmed(t)
	r.no(api.ErrOver, review(1, 1))
	r.ok(0, review(1, 2)) // it is held ahead of that
	r.is(1, api.Released, 0)
	r.stands(3, open)
	u := warmed(t)
	u.no(api.ErrUnlike, merge(1, 2))
	u.ok(5, split(1, 2))
	u.is(5, api.Held, 0)
}

// P19.1: in houses that were made so, an order that is not allocated stays as it is, when a lot of it is held, and so do its other lots.
func TestSettleMade(t *testing.T) {
	for order := range 4 {
		p := made(t, torn(api.Released, order, 101))
		p.ok(21, tick(1))
		p.is(1, api.Held, 0)
		if order == 2 {
			p.is(2, api.Released, 0)
			p.stands(2, open)
		} else {
			p.is(2, api.Released, order)
			p.stands(2, allocated)
		}
	}
}
