package house_test

import (
	"fmt"
	"slices"
	"testing"

	"hoarfrost/api"
	"hoarfrost/house"
)

// dice tell numbers that look like any, the same in each run.
type dice uint64

func (d *dice) below(n int) int {
	*d = *d*6364136223846793005 + 1442695040888963407
	return int((uint64(*d^*d>>31) * 0x9e3779b97f4a7c15 >> 1) % uint64(n))
}

func (d *dice) one(l ...int) int { return l[d.below(len(l))] }

// world is where the dice do something: how many of what there may be.
type world struct {
	*dice
	p pair
}

// frame is one that may be heard, for the most part.
func (w world) frame() api.Command {
	minute := max(0, w.p.w.now-w.below(12)+w.one(0, 0, 0, 0, 0, 1))
	zone, seq := w.one(1, 1, 2, 3, 3, 4), w.below(3)
	if w.below(4) == 0 {
		return door(zone, minute, seq, w.below(2) == 0)
	}
	return air(zone, minute, seq, w.one(20, 39, 40, 41, 42, 45, 45, 60, 90))
}

// lot is a lot's ID, for the most part of one that is there; of that status, if there is any.
func (w world) lot(l ...api.Status) int {
	var ids []int
	for _, lot := range sorted(w.p.w.lots) {
		if len(l) == 0 || slices.Contains(l, lot.Status) {
			ids = append(ids, lot.ID)
		}
	}
	if len(ids) == 0 || w.below(12) == 0 {
		return w.below(w.p.w.given + 2)
	}
	return w.one(ids...)
}

// order is an order's ID, for the most part of one in that state.
func (w world) order(state int) int {
	var ids []int
	for _, o := range w.p.w.orders {
		if o.State == state {
			ids = append(ids, o.ID)
		}
	}
	if len(ids) == 0 || w.below(8) == 0 {
		return w.below(len(w.p.w.orders) + 2)
	}
	return w.one(ids...)
}

// alike is a merge of two lots, that are alike, if there are such.
func (w world) alike() api.Command {
	for _, a := range sorted(w.p.w.lots) {
		for _, b := range sorted(w.p.w.lots) {
			if a.ID != b.ID && goes(a).Zone > 0 && areAlike(a, b) && w.below(3) > 0 {
				return merge(a.ID, b.ID)
			}
		}
	}
	return merge(w.lot(), w.lot())
}

// command is any one.
func (w world) command() api.Command {
	now := w.p.w.now
	switch w.below(24) {
	case 0, 1, 2, 3:
		return w.frame()
	case 4, 5:
		return tick(w.one(0, 1, 1, 2, 3))
	case 6, 7:
		return receive(w.one(1, 1, 1, 2, 3), w.one(1, 1, 2, 3, 3, 4), w.below(9), now+w.one(-9, 5, 15, 30, 30, 60))
	case 8, 9:
		return move(w.lot(), w.one(1, 1, 2, 3, 4))
	case 10:
		return split(w.lot(), w.below(6))
	case 11:
		return w.alike()
	case 12, 13, 14:
		return release(w.lot(api.Quarantine))
	case 15:
		return hold(w.lot(api.Released, api.Quarantine))
	case 16, 17:
		return review(w.lot(api.Held), w.one(-1, 0, 5, 50))
	case 18:
		return reject(w.lot(api.Held, api.Rejected))
	case 19:
		return want(w.one(1, 1, 1, 2, 3), w.one(0, 2, 3, 5, 8))
	case 20, 21:
		return allocate(w.order(open))
	case 22:
		if w.below(9) > 0 {
			return ship(w.order(allocated))
		}
		return free(w.order(allocated))
	}
	return [...]api.Command{addZone(api.Zone{ID: w.one(0, 1, 4, 4), Worst: 41, Gap: 2, Room: 9, Ajar: -w.below(2)}), addProduct(w.one(0, 1, 3, 3), 40, 30), {Kind: 16}, sense(nil), ship(w.order(allocated)), tick(1)}[w.below(6)]
}

// begin is a small world at minute 3.
func begin(t *testing.T, d *dice) world {
	t.Helper()
	p := twins(t)
	p.ok(3,
		addZone(api.Zone{ID: 1, Worst: 41, Gap: 4, Room: 60, Dock: true, Ajar: 2}),
		addZone(api.Zone{ID: 2, Worst: 42, Gap: 0, Room: 20}),
		addZone(api.Zone{ID: 3, Worst: 44, Gap: 9, Room: 60, Dock: true}),
		addProduct(1, 40, 40),
		addProduct(2, 42, 9),
		tick(3),
	)
	return world{d, p}
}

// seen is how often commands of a kind had an error.
type seen map[api.Kind]map[api.Errno]int

func (s seen) count(k api.Kind, e api.Errno) {
	if s[k] == nil {
		s[k] = map[api.Errno]int{}
	}
	s[k][e]++
}

// P19.1, P19.2, P19.3: any commands, side by side with what is reckoned by the words; each of a kind's errors that there can be comes.
func TestAny(t *testing.T) {
	d, all := dice(19), seen{}
	for range 120 {
		w := begin(t, &d)
		for range 160 {
			c := w.command()
			before := w.p.h.Dump()
			_, e := w.p.try(c)
			all.count(c.Kind, e)
			w.p.safe(c, e, before)
		}
		w.p.again()
	}
	for k, l := range [][]api.Errno{
		{api.ErrForm, api.ErrNone, api.ErrFuture}, {api.ErrArg}, {api.ErrArg, api.ErrTwice}, {api.ErrArg, api.ErrTwice},
		{api.ErrArg, api.ErrNone, api.ErrFull}, {api.ErrNone, api.ErrState, api.ErrFull}, {api.ErrNone, api.ErrArg, api.ErrState}, {api.ErrNone, api.ErrArg, api.ErrState, api.ErrUnlike},
		{api.ErrNone, api.ErrState, api.ErrOver}, {api.ErrNone, api.ErrState}, {api.ErrNone, api.ErrArg, api.ErrState, api.ErrOver}, {api.ErrNone, api.ErrState},
		{api.ErrNone, api.ErrArg}, {api.ErrNone, api.ErrState, api.ErrShort}, {api.ErrNone, api.ErrState}, {api.ErrNone, api.ErrState, api.ErrOld, api.ErrDock},
	} {
		for _, e := range append(l, api.OK) {
			if all[api.Kind(k)][e] < 5 {
				t.Errorf("kind %d: error %d came %d times", k, e, all[api.Kind(k)][e])
			}
		}
		if n := len(all[api.Kind(k)]); n != len(l)+1 {
			t.Errorf("kind %d: %v", k, all[api.Kind(k)])
		}
	}
}

// safe wants what was allocated, or shipped, just now to be neither held, nor old, nor over, and its certificates to tell what its lots had gone through.
func (p pair) safe(c api.Command, e api.Errno, before house.State) {
	p.t.Helper()
	s, units := p.h.Dump(), 0
	if e != api.OK || c.Kind != api.Allocate && c.Kind != api.Ship {
		if len(s.Certs) != len(before.Certs) {
			p.t.Fatalf("%v: certificates", c)
		}
		return
	}
	for _, l := range s.Lots {
		if l.Order != c.A {
			continue
		}
		units += l.Units
		n, e := p.h.Exposure(l.ID)
		budget := p.w.products[l.Product].Budget
		is := api.Released
		if c.Kind == api.Ship {
			is = api.Shipped
		}
		if e != api.OK || n != p.w.upto(l, s.Now) || n > budget+l.Grant || s.Now >= l.Expiry || l.Status != is {
			p.t.Fatalf("%v: %v: exposure %d", c, l, n)
		}
		if c.Kind == api.Ship {
			p.certified(s, l, n, budget+l.Grant)
		}
	}
	if o := s.Orders[c.A-1]; units != o.Units {
		p.t.Fatalf("%v: %v has %d units", c, o, units)
	}
}

// certified wants a lot to have just one certificate, of that order, exposure and allowance, and of NOW.
func (p pair) certified(s house.State, l api.Lot, exposure, allowance int) {
	p.t.Helper()
	var its []api.Cert
	for _, c := range s.Certs {
		if c.Lot == l.ID {
			its = append(its, c)
		}
	}
	want := api.Cert{Order: l.Order, Lot: l.ID, Product: l.Product, Units: l.Units, Minute: s.Now, Exposure: exposure, Allowance: allowance}
	if len(its) == 1 {
		want.ID = its[0].ID
	}
	if len(its) != 1 || its[0] != want {
		p.t.Fatalf("lot %d: certificates %v, not %v", l.ID, its, want)
	}
}

// again wants a house that is made of what this one dumped to have the same, and to tell the same.
func (p pair) again() pair {
	p.t.Helper()
	q := made(p.t, p.h.Dump())
	if fmt.Sprint(q.h.Dump()) != fmt.Sprint(p.h.Dump()) || !slices.Equal(q.h.Recall(), p.h.Recall()) {
		p.t.Fatalf("made again: %v\nnot %v", q.h.Dump(), p.h.Dump())
	}
	return q
}

// P19.1, H2: a house that is made of what another one dumped goes on as that one does, from wherever it was made.
func TestMadeGoesOn(t *testing.T) {
	d := dice(23)
	for range 30 {
		w := begin(t, &d)
		for range 6 {
			for range 20 {
				w.p.try(w.command())
			}
			other := w.p.again()
			for range 20 {
				c := w.command()
				n, e := w.p.try(c)
				if m, f := other.try(c); n != m || e != f {
					t.Fatalf("%v: %d, error %d, where it was made anew: %d, error %d", c, n, e, m, f)
				}
			}
		}
	}
}

// P19.3: behind commands that have an error a house does just what one does that never had them.
func TestErrorsLeaveNothing(t *testing.T) {
	d := dice(29)
	for range 20 {
		w := begin(t, &d)
		var done []api.Command
		for range 250 {
			c := w.command()
			if _, e := w.p.try(c); e == api.OK {
				done = append(done, c)
			}
		}
		other := begin(t, &d)
		for _, c := range done {
			other.p.ok(byWords, c)
		}
		if fmt.Sprint(other.p.h.Dump()) != fmt.Sprint(w.p.h.Dump()) {
			t.Fatalf("%v\nnot %v", other.p.h.Dump(), w.p.h.Dump())
		}
	}
}

// shuffled are commands in another order, each as often as the dice like, but once at least.
func (d *dice) shuffled(l []api.Command) (other []api.Command) {
	for _, c := range l {
		for range 1 + d.below(3) {
			at := d.below(len(other) + 1)
			other = slices.Insert(other, at, c)
		}
	}
	return other
}

// P19.4: frames between two other commands, in any order, each as often as one likes, lead to the same house.
func TestInAnyOrder(t *testing.T) {
	d := dice(31)
	for range 60 {
		w := begin(t, &d)
		for range 8 {
			for range 12 {
				w.p.try(w.command())
			}
			other := w.p.again()
			var frames []api.Command
			for range d.below(14) {
				frames = append(frames, w.frame())
			}
			for _, c := range frames {
				w.p.try(c)
			}
			for _, c := range d.shuffled(frames) {
				other.try(c)
			}
			for _, c := range []api.Command{{}, tick(1), w.command(), w.command()} {
				w.p.try(c)
				other.try(c)
				if a, b := fmt.Sprint(w.p.h.Dump()), fmt.Sprint(other.h.Dump()); a != b || !slices.Equal(w.p.h.Recall(), other.h.Recall()) {
					t.Fatalf("%v behind %v: %s\nnot %s", c, frames, b, a)
				}
			}
		}
	}
}

// P19.4: all orders of a few frames, one of which comes twice, of one minute and number, and of others.
func TestAllOrders(t *testing.T) {
	few := []api.Command{air(1, 4, 0, 66), air(1, 4, 0, 60), air(1, 4, 1, 45), air(1, 6, 0, 40), door(1, 4, 0, true), door(1, 4, 0, false)}
	want := ""
	var all func(l, rest []api.Command)
	all = func(l, rest []api.Command) {
		if len(rest) == 0 {
			p := gone(t)
			for _, c := range append(l, l[2], l[0]) {
				if _, e := p.h.Do(c); e != api.OK {
					t.Fatalf("%v: error %d", c, e)
				}
			}
			is := fmt.Sprint(p.h.Dump(), p.h.Recall())
			if want == "" {
				want = is
			}
			if is != want {
				t.Fatalf("%v: %s\nnot %s", l, is, want)
			}
		}
		for at := range rest {
			all(append(slices.Clone(l), rest[at]), slices.Delete(slices.Clone(rest), at, at+1))
		}
	}
	all(nil, few)
}

// P19.2: of houses that are made of what such a one told, too: nothing that is over, old or held goes out, whatever comes between.
func TestSafeMade(t *testing.T) {
	d := dice(37)
	for range 40 {
		w := begin(t, &d)
		for range 5 {
			for range 40 {
				c := w.command()
				before := w.p.h.Dump()
				_, e := w.p.try(c)
				w.p.safe(c, e, before)
			}
			w.p = w.p.again()
		}
	}
}

// P1, P2: any houses that there can be, made of what no house ever had, by any numbers.
func TestAnyMade(t *testing.T) {
	d := dice(41)
	for range 300 {
		s := house.State{Now: 20, Given: 6, Zones: full().Zones, Products: full().Products, Readings: full().Readings, Marks: full().Marks, Orders: ordered(3)}
		s.Zones[1].Room, s.Zones[1].Worst = 30, 45
		for at := range s.Orders {
			s.Orders[at].State = d.below(3)
		}
		for id := 1; id <= 6; id++ {
			l := api.Lot{ID: id, Product: d.one(1, 1, 1, 5), Units: 1 + d.below(3), Expiry: d.one(10, 20, 21, 22, 50), Grant: d.one(0, 5, 200), Order: d.below(4), Status: api.Status(d.below(5)), Stays: []api.Stay{stay(9, 2, 4+d.below(9))}}
			if l.Status != api.Shipped {
				l.Stays = append(l.Stays, on(d.one(2, 2, 3), l.Stays[0].To))
			}
			s.Lots = append(s.Lots, l)
		}
		p := made(t, s)
		for range 40 {
			switch d.below(8) {
			case 0:
				p.try(air(d.one(2, 3, 9), d.below(22), d.below(2), d.one(30, 41, 45, 60, 80)))
			case 1:
				p.try(tick(1))
			case 2, 3:
				p.try([...]api.Command{release(1 + d.below(6)), hold(1 + d.below(6)), review(1+d.below(6), d.below(40)), reject(1 + d.below(6))}[d.below(4)])
			default:
				p.try([...]api.Command{allocate(1 + d.below(3)), free(1 + d.below(3)), ship(1 + d.below(3)), want(1, 1+d.below(6))}[d.below(4)])
			}
		}
		p.again()
	}
}
