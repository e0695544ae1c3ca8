package model_test

import (
	"fmt"
	"math"
	"slices"
	"testing"

	"hoarfrost/api"
	"hoarfrost/command"
	"hoarfrost/degree"
	"hoarfrost/frame"
	"hoarfrost/house"
	"hoarfrost/model"
)

// What the words name: the first minute that there is not, and the greatest number of units; the greatest lot's ID; how many orders there are at most; the most.
const (
	end      = 1 << 20
	lastLot  = 256
	lastWant = 64
	most     = 1 << 62
)

// The states of an order.
const (
	open = iota
	allocated
	shipped
)

// asked is the command of a kind that has these numbers.
func asked(k api.Kind, numbers ...int) api.Command {
	c := api.Command{Kind: k}
	for at, n := range numbers {
		*[]*int{&c.A, &c.B, &c.C, &c.D, &c.E}[at] = n
	}
	return c
}

func tick(minutes int) api.Command                 { return asked(api.Tick, minutes) }
func addProduct(id, limit, budget int) api.Command { return asked(api.AddProduct, id, limit, budget) }
func move(lot, zone int) api.Command               { return asked(api.Move, lot, zone) }
func split(lot, units int) api.Command             { return asked(api.Split, lot, units) }
func merge(into, from int) api.Command             { return asked(api.Merge, into, from) }
func release(lot int) api.Command                  { return asked(api.Release, lot) }
func hold(lot int) api.Command                     { return asked(api.Hold, lot) }
func review(lot, grant int) api.Command            { return asked(api.Review, lot, grant) }
func reject(lot int) api.Command                   { return asked(api.Reject, lot) }
func want(product, units int) api.Command          { return asked(api.Want, product, units) }
func allocate(order int) api.Command               { return asked(api.Allocate, order) }
func free(order int) api.Command                   { return asked(api.Free, order) }
func ship(order int) api.Command                   { return asked(api.Ship, order) }

func receive(product, zone, units, expiry int) api.Command {
	return asked(api.Receive, product, zone, units, expiry)
}

func addZone(z api.Zone) api.Command {
	if z.Dock {
		return asked(api.AddZone, z.ID, z.Worst, z.Gap, z.Room, 2*z.Ajar+1)
	}
	return asked(api.AddZone, z.ID, z.Worst, z.Gap, z.Room, 2*z.Ajar)
}

// sense is that of any bytes.
func sense(b []byte) api.Command { return api.Command{Kind: api.Sense, Bytes: b} }

func heard(f api.Frame) api.Command {
	b, e := frame.Encode(f)
	if e != api.OK {
		panic(fmt.Sprintf("no frame: %v", f))
	}
	return sense(b)
}

// air is of so many tenths.
func air(zone, minute, seq, tenths int) api.Command {
	return heard(api.Frame{Zone: zone, Minute: minute, Seq: seq, Bits: math.Float64bits(degree.Float(tenths))})
}

func door(zone, minute, seq int, isOpen bool) api.Command {
	return heard(api.Frame{Zone: zone, Minute: minute, Seq: seq, Door: true, Open: isOpen})
}

// wild are numbers that are no lot's, no order's, and no minutes' that may be; some would be, if they wrapped round.
func wild() []int {
	return []int{0, -1, -2, -256, 257, 1 << 16, end, end + 1, 1<<32 + 1, -1<<32 + 1, math.MinInt, math.MinInt + 1, math.MaxInt - 1, math.MaxInt}
}

// pair is a model and a house that are asked the same, and what had no error, as it was asked.
type pair struct {
	t    *testing.T
	m    *model.Model
	h    *house.House
	done []api.Command
}

func twins(t *testing.T) *pair { return &pair{t: t, m: model.New(), h: house.New()} }

// try does a command in both, and wants the same of both; with an error nothing of the model may be another one.
func (p *pair) try(c api.Command) (int, api.Errno) {
	p.t.Helper()
	before := told(p.m)
	n, e := p.m.Do(c)
	if m, f := p.h.Do(c); n != m || e != f {
		p.t.Fatalf("%v: %d, error %d; a house tells %d, error %d", c, n, e, m, f)
	}
	switch {
	case e == api.OK:
		c.Bytes = slices.Clone(c.Bytes)
		p.done = append(p.done, c)
	case n != 0 || told(p.m) != before:
		p.t.Fatalf("%v: error %d told %d, and changed %s into %s", c, e, n, before, told(p.m))
	}
	p.have(c)
	return n, e
}

// told is all that a model has, but its events, and how many those are.
func told(m *model.Model) string {
	return fmt.Sprint(m.Dump(), m.Recall(), len(m.Events()))
}

// have wants both to have, and to tell, the same; exposures as they are reckoned from what was asked; and the events to be what had no error.
func (p *pair) have(what any) {
	p.t.Helper()
	s := p.m.Dump()
	if a, b := fmt.Sprint(s), fmt.Sprint(p.h.Dump()); a != b {
		p.t.Fatalf("%v: Dump: %s\nnot %s", what, a, b)
	}
	if l := p.m.Events(); !slices.EqualFunc(l, p.done, command.Same) {
		p.t.Fatalf("%v: Events: %v\nnot %v", what, l, p.done)
	}
	for id := -1; id < s.Given+2; id++ {
		n, e := p.m.Exposure(id)
		if m, f := p.h.Exposure(id); n != m || e != f {
			p.t.Fatalf("%v: Exposure(%d): %d, error %d; a house tells %d, error %d", what, id, n, e, m, f)
		}
	}
	if a, b := p.m.Recall(), p.h.Recall(); !slices.Equal(a, b) {
		p.t.Fatalf("%v: Recall: %v; a house tells %v", what, a, b)
	}
	if s.Now > 5000 {
		return // minute by minute that takes too long, and tells no more
	}
	k := knownBy(p.done)
	for _, l := range s.Lots {
		if n, _ := p.m.Exposure(l.ID); n != k.exposure(l, s.Now) {
			p.t.Fatalf("%v: Exposure(%d): %d, not %d", what, l.ID, n, k.exposure(l, s.Now))
		}
	}
	if a, b := p.m.Recall(), k.recall(s); !slices.Equal(a, b) {
		p.t.Fatalf("%v: Recall: %v, not %v", what, a, b)
	}
}

// known is what commands say of the air: all readings, as they came, as often as they came, and what they count for.
type known struct {
	zones    map[int]api.Zone
	products map[int]api.Product
	heard    map[int][]api.Reading
}

func knownBy(done []api.Command) known {
	k := known{map[int]api.Zone{}, map[int]api.Product{}, map[int][]api.Reading{}}
	for _, c := range done {
		switch c.Kind {
		case api.AddZone:
			k.zones[c.A] = api.Zone{Worst: c.B, Gap: c.C}
		case api.AddProduct:
			k.products[c.A] = api.Product{Limit: c.B}
		case api.Sense:
			if f, _ := frame.Decode(c.Bytes); !f.Door {
				tenths, _ := frame.Tenths(f)
				k.heard[f.Zone] = append(k.heard[f.Zone], api.Reading{Minute: f.Minute, Seq: f.Seq, Tenths: tenths})
			}
		}
	}
	return k
}

// air is a zone's of a minute.
func (k known) air(zone, minute int) int {
	best := api.Reading{Minute: -1}
	for _, r := range k.heard[zone] {
		isBehind := r.Minute > best.Minute || r.Minute == best.Minute && (r.Seq > best.Seq || r.Seq == best.Seq && r.Tenths > best.Tenths)
		if r.Minute <= minute && isBehind {
			best = r
		}
	}
	if best.Minute < 0 || best.Minute+k.zones[zone].Gap < minute {
		return k.zones[zone].Worst
	}
	return best.Tenths
}

// exposure is a lot's, up to a minute.
func (k known) exposure(l api.Lot, upto int) (sum int) {
	for _, s := range l.Stays {
		to := s.To
		if to == -1 || to > upto {
			to = upto
		}
		for minute := s.From; minute < to; minute++ {
			sum += max(0, k.air(s.Zone, minute)-k.products[l.Product].Limit)
		}
	}
	return sum
}

// recall are the certificates of a state that are flagged.
func (k known) recall(s house.State) (ids []int) {
	for _, c := range s.Certs {
		for _, l := range s.Lots {
			if l.ID == c.Lot && k.exposure(l, c.Minute) > c.Allowance {
				ids = append(ids, c.ID)
			}
		}
	}
	return ids
}

// ok wants commands to have no error, and the last one to tell a number.
func (p *pair) ok(tells int, l ...api.Command) {
	p.t.Helper()
	for at, c := range l {
		if n, e := p.try(c); e != api.OK || at == len(l)-1 && n != tells {
			p.t.Fatalf("%v: %d, error %d, not %d", c, n, e, tells)
		}
	}
}

// no wants each of commands to have an error.
func (p *pair) no(want api.Errno, l ...api.Command) {
	p.t.Helper()
	for _, c := range l {
		if n, e := p.try(c); n != 0 || e != want {
			p.t.Fatalf("%v: %d, error %d, not error %d", c, n, e, want)
		}
	}
}

// is wants a lot to have that status, and that order.
func (p *pair) is(id int, st api.Status, order int) {
	p.t.Helper()
	for _, l := range p.m.Dump().Lots {
		if l.ID == id && l.Status == st && l.Order == order {
			return
		}
	}
	p.t.Fatalf("lot %d has not status %d, order %d: %v", id, st, order, p.m.Dump().Lots)
}

// exposed wants a lot to have that exposure.
func (p *pair) exposed(id, want int) {
	p.t.Helper()
	if n, e := p.m.Exposure(id); n != want || e != api.OK {
		p.t.Fatalf("Exposure(%d): %d, error %d, not %d", id, n, e, want)
	}
}

// flags wants just these certificates to be flagged.
func (p *pair) flags(ids ...int) {
	p.t.Helper()
	if l := p.m.Recall(); !slices.Equal(l, ids) {
		p.t.Fatalf("Recall: %v, not %v", l, ids)
	}
}

// furnished is at minute 0: zones 1 (a dock), 2 (with little room) and 3 (a dock), of which just 3 is, silent, too warm for its products: each minute there is 10; products 1, which may go through 100, and 2, which may go through nothing.
func furnished(t *testing.T) *pair {
	t.Helper()
	p := twins(t)
	p.ok(2,
		addZone(api.Zone{ID: 1, Worst: 40, Gap: 5, Room: 1000, Dock: true, Ajar: 3}),
		addZone(api.Zone{ID: 2, Worst: 40, Gap: 0, Room: 15}),
		addZone(api.Zone{ID: 3, Worst: 50, Gap: 5, Room: 2000, Dock: true, Ajar: 1}),
		addProduct(1, 40, 100),
		addProduct(2, 40, 0),
	)
	return p
}

// unsettled is at minute 10, with lots of product 1: 1 and 2, which are order 1's, 3, which is released, 4, which is order 4's, 5, which is in quarantine, 6, which is held, 7, which is shipped, by order 2, and 8, which is in quarantine; order 3 is open. 2 and 8 are in zone 2, all else in zone 1. What came last says that 1, 3, 5 and 6 have gone through 110, all else through nothing.
func unsettled(t *testing.T) *pair {
	t.Helper()
	p := furnished(t)
	p.ok(8, receive(1, 1, 8, 50), receive(1, 1, 9, 51), receive(1, 1, 6, 50), receive(1, 2, 4, 70), receive(1, 1, 5, 60), receive(1, 1, 5, 60), receive(1, 1, 2, 20), receive(1, 2, 1, 60))
	p.ok(2, release(1), release(2), want(1, 17), allocate(1))
	p.ok(1, release(7), want(1, 2), allocate(2))
	p.ok(1, want(1, 3), release(4), want(1, 4), allocate(4))
	p.ok(1, release(3), hold(6), tick(1), move(2, 2), ship(2))
	p.ok(10, tick(3), move(4, 1), tick(6))
	p.ok(1, air(1, 2, 0, 150), air(1, 3, 0, 40))
	return p
}
