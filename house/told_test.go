package house_test

import (
	"fmt"
	"slices"
	"testing"

	"hoarfrost/api"
	"hoarfrost/house"
)

// P19.1, Exposure: that of the lot's stays over its product's Limit, up to NOW.
func TestExposure(t *testing.T) {
	p := furnished(t)
	p.ok(3, addProduct(3, -5, 9), receive(1, 3, 5, 90), receive(3, 3, 5, 90), receive(2, 1, 5, 90))
	for id, want := range map[int]int{1: 0, 2: 0, 3: 0} {
		p.exposed(id, want)
	}
	p.ok(4, tick(4))
	p.exposed(1, 40)
	p.exposed(2, 220)
	p.exposed(3, 0)
	p.ok(4, split(1, 2))
	p.ok(0, move(1, 1))
	p.ok(6, tick(2))
	p.exposed(1, 40)
	p.exposed(4, 60)
	p.ok(1, air(3, 6, 0, 999)) // of NOW, which is still to go by
	p.exposed(4, 60)
	p.ok(7, tick(1))
	p.exposed(4, 60+959)
	p.ok(1, air(3, 6, 1, 0))
	p.exposed(4, 60)
	p.ok(1, air(3, 2, 0, 41)) // minutes 2 to 5
	p.exposed(4, 24)
	p.exposed(1, 22)
	p.exposed(2, 2*55+4*46+5)
	for _, id := range append(wild(), 5) {
		if n, e := p.h.Exposure(id); n != 0 || e != api.ErrNone {
			t.Errorf("Exposure(%d): %d, error %d", id, n, e)
		}
	}
}

// P19.1, Exposure: of a lot that is merged there is none; as many minutes, and tenths, as there can be.
func TestExposureEnds(t *testing.T) {
	p := stocked(t)
	p.ok(0, merge(1, 3))
	if n, e := p.h.Exposure(3); n != 0 || e != api.ErrNone {
		t.Errorf("Exposure(3): %d, error %d", n, e)
	}
	h := house.New()
	for _, c := range []api.Command{addZone(api.Zone{ID: 1, Worst: 1 << 40, Room: end, Dock: true}), addProduct(1, -1<<40, most), receive(1, 1, end, end-1), release(1), want(1, end), tick(end - 1)} {
		if n, e := h.Do(c); e != api.OK {
			t.Fatalf("%v: %d, error %d", c, n, e)
		}
	}
	if n, e := h.Exposure(1); n != (end-1)<<41 || e != api.OK {
		t.Errorf("Exposure(1): %d, error %d", n, e)
	}
}

// gone is a house at minute 10, with lots that were shipped then: 1 (from zone 1), 2 (which was in zone 3 from minute 7 to 8, and has a grant of 7), and 3 (which came at minute 8).
func gone(t *testing.T) pair {
	t.Helper()
	p := furnished(t)
	p.ok(1, receive(1, 1, 5, 50))
	p.ok(2, receive(1, 1, 5, 50))
	p.ok(7, tick(7))
	p.ok(0, move(2, 3))
	p.ok(8, tick(1))
	p.ok(0, move(2, 1))
	p.ok(3, receive(1, 1, 5, 50))
	p.ok(0, release(1), release(2), release(3), hold(2), review(2, 7))
	p.ok(10, tick(2))
	p.ok(1, want(1, 15))
	p.ok(3, allocate(1))
	p.ok(3, ship(1))
	p.flags()
	return p
}

// P19.1, Recall, and the eighth example: a lot is shipped at minute 10; a reading of minute 4 comes then, that is warm.
func TestRecall(t *testing.T) {
	p := gone(t)
	p.ok(1, air(1, 4, 0, 66)) // minutes 4 to 9: 6 of 26, lot 2 has 5 of them and 10
	p.exposed(1, 156)
	p.exposed(2, 26*3+10+26*2)
	p.exposed(3, 52)
	p.flags(1, 2)
	p.ok(1, air(1, 6, 0, 40)) // it was no longer so
	p.exposed(1, 52)
	p.flags()
	p.ok(1, air(1, 8, 0, 90)) // 50 each in 8 and 9
	p.flags(1, 2)
	p.ok(1, air(1, 8, 0, 91))
	p.flags(1, 2, 3) // of greater tenths at the same number
	p.ok(0, air(1, 8, 0, 90))
	p.flags(1, 2, 3)
	p.ok(60, tick(50))
	p.flags(1, 2, 3)
	p.ok(1, air(1, 8, 1, 0))
	p.flags()
}

// P19.1, Recall: just what is above the allowance; of lots that were elsewhere, or not there yet, none is flagged, nor of those that left.
func TestRecallOthers(t *testing.T) {
	p := gone(t)
	p.ok(1, air(3, 7, 0, 137)) // lot 2 has 97, and an allowance of 107
	p.flags()
	p.ok(1, air(3, 7, 0, 147))
	p.exposed(2, 107)
	p.flags()
	p.ok(1, air(3, 7, 0, 148))
	p.flags(2)
	q := gone(t)
	q.ok(1, air(1, 5, 0, 137), air(1, 6, 0, 40))
	q.exposed(2, 107)
	q.flags()
	q.ok(1, air(1, 5, 0, 138))
	q.flags(2)
	q.ok(1, air(1, 5, 0, 140))
	q.exposed(1, 100)
	q.flags(2)
	q.ok(1, air(1, 5, 0, 141))
	q.flags(1, 2)
	r := gone(t)
	r.ok(14, tick(4))
	r.ok(1, air(1, 10, 0, 1<<40), air(1, 13, 0, 1<<40), air(2, 1, 0, 1<<40), air(3, 8, 0, 1<<40), air(3, 0, 0, 1<<40), air(3, 6, 0, 0))
	r.flags()
}

// P19.1, Recall: at the minute of the shipment, not at NOW, also of a house that was made so, whose lots stayed on.
func TestRecallMinute(t *testing.T) {
	s := torn(api.Shipped, 3, 0)
	s.Lots[0].Stays = []api.Stay{stay(1, 2, 20)}
	s.Readings[0] = nil
	for minute := range 21 {
		s.Certs = append(s.Certs, api.Cert{ID: minute + 1, Lot: 1, Product: 1, Minute: minute, Allowance: 50})
	}
	p := made(t, s)
	p.flags()
	p.ok(1, air(1, 7, 0, 90))
	p.flags()
	p.ok(1, air(1, 9, 0, 41))
	p.flags(11, 12, 13, 14, 15, 16, 17, 18, 19, 20, 21)
}

// P19.1, Alarms: of a door that was open for Ajar minutes none, for one more one; up to NOW.
func TestAlarms(t *testing.T) {
	p := furnished(t)
	alarms := func(zone int, want string) {
		t.Helper()
		if l, e := p.h.Alarms(zone); fmt.Sprint(l) != want || e != api.OK {
			t.Fatalf("Alarms(%d): %v, error %d, not %s", zone, l, e, want)
		}
	}
	p.ok(1, door(1, 0, 0, true), door(2, 0, 0, true))
	alarms(2, "[]")
	p.ok(1, tick(1))
	alarms(2, "[{0 1}]") // whose Ajar is 0
	p.ok(3, tick(2))
	alarms(1, "[]")
	p.ok(4, tick(1))
	alarms(1, "[{0 4}]")
	alarms(2, "[{0 4}]")
	alarms(3, "[]")
	p.ok(20, tick(16))
	p.ok(1, door(1, 3, 0, false), door(1, 5, 0, true), door(1, 9, 0, false), door(1, 11, 9, true), door(1, 14, 0, false), door(1, 17, 0, true))
	alarms(1, "[{5 9}]")
	p.ok(21, tick(1))
	alarms(1, "[{5 9} {17 21}]")
	alarms(3, "[]")
	p.ok(1, door(1, 17, 1, false))
	alarms(1, "[{5 9}]")
	for _, id := range append(wild(), 4, 16, 17) {
		if l, e := p.h.Alarms(id); len(l) != 0 || e != api.ErrNone {
			t.Errorf("Alarms(%d): %v, error %d", id, l, e)
		}
	}
}

// P2: what is told hangs not on what was asked between.
func TestAskedTwice(t *testing.T) {
	p, silent := gone(t), gone(t)
	for _, c := range []api.Command{air(1, 4, 0, 66), tick(1), air(1, 6, 0, 40), receive(1, 1, 5, 50), tick(90), air(1, 3, 0, 99)} {
		p.have("asked")
		p.have("asked again")
		p.ok(byWords, c)
		if _, e := silent.h.Do(c); e != api.OK {
			t.Fatalf("%v: error %d", c, e)
		}
	}
	if fmt.Sprint(silent.h.Dump()) != fmt.Sprint(p.h.Dump()) || !slices.Equal(silent.h.Recall(), p.h.Recall()) {
		t.Errorf("%v %v", silent.h.Dump(), silent.h.Recall())
	}
}
