package model_test

import (
	"fmt"
	"math"
	"slices"
	"testing"

	"hoarfrost/api"
	"hoarfrost/check"
	"hoarfrost/house"
	"hoarfrost/model"
)

// stay is minutes in a zone; on one that goes on.
func stay(zone, from, to int) api.Stay { return api.Stay{Zone: zone, From: from, To: to} }

func on(zone, from int) api.Stay { return stay(zone, from, -1) }

// day is a state that is written out, step by step, and what is held against it.
type day struct {
	*pair
	want house.State
}

// then wants a command to tell a number, and all to be as it was, but for a change.
func (d *day) then(c api.Command, tells int, change func(s *house.State)) {
	d.t.Helper()
	d.ok(tells, c)
	change(&d.want)
	if a, b := fmt.Sprint(d.m.Dump()), fmt.Sprint(d.want); a != b {
		d.t.Fatalf("%v: Dump: %s\nnot %s", c, a, b)
	}
}

// P20.1, Dump: what was there, and of it what each kind changes.
func TestDump(t *testing.T) {
	d := &day{pair: twins(t)}
	d.all()
}

func (d *day) all() {
	d.t.Helper()
	d.places()
	d.lots()
	d.orders()
	d.papers()
}

// places are zones and products, of which those of lesser IDs come later, and what is heard there.
func (d *day) places() {
	d.t.Helper()
	d.then(tick(7), 7, func(s *house.State) { s.Now = 7 })
	d.then(asked(api.AddZone, 3, 50, 5, 20, 0), 3, func(s *house.State) {
		s.Zones = []api.Zone{{ID: 3, Worst: 50, Gap: 5, Room: 20}}
		s.Readings, s.Marks = make([][]api.Reading, 1), make([][]api.Mark, 1)
	})
	d.then(air(3, 4, 9, 20), 1, func(s *house.State) { s.Readings[0] = []api.Reading{{Minute: 4, Seq: 9, Tenths: 20}} })
	d.then(door(3, 5, 2, true), 1, func(s *house.State) { s.Marks[0] = []api.Mark{{Minute: 5, Seq: 2, Open: true}} })
	d.then(asked(api.AddZone, 1, -30, 0, 41, 15), 1, func(s *house.State) {
		s.Zones = slices.Insert(s.Zones, 0, api.Zone{ID: 1, Worst: -30, Room: 41, Dock: true, Ajar: 7})
		s.Readings, s.Marks = slices.Insert(s.Readings, 0, nil), slices.Insert(s.Marks, 0, nil)
	})
	d.then(air(3, 4, 9, 21), 1, func(s *house.State) { s.Readings[1][0].Tenths = 21 })
	d.then(air(3, 4, 9, 20), 0, func(s *house.State) {})
	d.then(air(3, 4, 8, 70), 1, func(s *house.State) {
		s.Readings[1] = slices.Insert(s.Readings[1], 0, api.Reading{Minute: 4, Seq: 8, Tenths: 70})
	})
	d.then(air(3, 1, 65535, -9), 1, func(s *house.State) {
		s.Readings[1] = slices.Insert(s.Readings[1], 0, api.Reading{Minute: 1, Seq: 65535, Tenths: -9})
	})
	d.then(air(1, 7, 0, 5), 1, func(s *house.State) { s.Readings[0] = []api.Reading{{Minute: 7, Tenths: 5}} })
	d.then(door(3, 5, 2, false), 0, func(s *house.State) {})
	d.then(door(3, 5, 1, false), 1, func(s *house.State) {
		s.Marks[1] = slices.Insert(s.Marks[1], 0, api.Mark{Minute: 5, Seq: 1})
	})
	d.then(door(3, 5, 1, true), 1, func(s *house.State) { s.Marks[1][0].Open = true })
	d.then(door(3, 5, 1, true), 0, func(s *house.State) {})
	d.then(door(1, 0, 7, false), 1, func(s *house.State) { s.Marks[0] = []api.Mark{{Minute: 0, Seq: 7}} })
	d.then(asked(api.AddProduct, 2, 30, 60), 2, func(s *house.State) { s.Products = []api.Product{{ID: 2, Limit: 30, Budget: 60}} })
	d.then(asked(api.AddProduct, 1, -40, most), 1, func(s *house.State) {
		s.Products = slices.Insert(s.Products, 0, api.Product{ID: 1, Limit: -40, Budget: most})
	})
	d.then(asked(api.AddZone, 2, 0, 0, 0, 1), 2, func(s *house.State) {
		s.Zones = slices.Insert(s.Zones, 1, api.Zone{ID: 2, Dock: true})
		s.Readings, s.Marks = slices.Insert(s.Readings, 1, nil), slices.Insert(s.Marks, 1, nil)
	})
}

// lots are received, moved, split, merged, and judged.
func (d *day) lots() {
	d.t.Helper()
	d.then(receive(2, 3, 8, 90), 1, func(s *house.State) {
		s.Lots, s.Given = []api.Lot{{ID: 1, Product: 2, Units: 8, Expiry: 90, Stays: []api.Stay{on(3, 7)}}}, 1
	})
	d.then(receive(2, 1, 40, 0), 2, func(s *house.State) {
		s.Lots, s.Given = append(s.Lots, api.Lot{ID: 2, Product: 2, Units: 40, Stays: []api.Stay{on(1, 7)}}), 2
	})
	d.then(tick(2), 9, func(s *house.State) { s.Now = 9 })
	d.then(move(2, 1), 0, func(s *house.State) {})
	d.then(split(2, 12), 3, func(s *house.State) {
		s.Lots, s.Given = append(s.Lots, api.Lot{ID: 3, Product: 2, Units: 12, Stays: []api.Stay{on(1, 7)}}), 3
		s.Lots[1].Units = 28
	})
	d.then(move(3, 3), 0, func(s *house.State) { s.Lots[2].Stays = []api.Stay{stay(1, 7, 9), on(3, 9)} })
	d.then(move(3, 1), 0, func(s *house.State) { s.Lots[2].Stays = []api.Stay{on(1, 7)} })
	d.then(merge(3, 2), 0, func(s *house.State) {
		s.Lots[2].Units = 40
		s.Lots = slices.Delete(s.Lots, 1, 2)
	})
	d.then(split(1, 3), 4, func(s *house.State) {
		s.Lots, s.Given = append(s.Lots, s.Lots[0]), 4
		s.Lots[0].Units, s.Lots[2].Units, s.Lots[2].ID = 5, 3, 4
	})
	d.then(release(1), 0, func(s *house.State) { s.Lots[0].Status = api.Released })
	d.then(hold(4), 0, func(s *house.State) { s.Lots[2].Status = api.Held })
	d.then(review(4, 5), 0, func(s *house.State) { s.Lots[2].Status, s.Lots[2].Grant = api.Released, 5 })
	d.then(reject(3), 0, func(s *house.State) { s.Lots[1].Status = api.Rejected })
}

// orders are wanted, allocated, free again, shipped; some lots are held, by a hold and by what is known of them.
func (d *day) orders() {
	d.t.Helper()
	d.then(want(1, end), 1, func(s *house.State) { s.Orders = []api.Order{{ID: 1, Product: 1, Units: end}} })
	d.then(want(2, 6), 2, func(s *house.State) { s.Orders = append(s.Orders, api.Order{ID: 2, Product: 2, Units: 6}) })
	d.then(allocate(2), 2, func(s *house.State) { // lot 1 whole, and 1 unit of lot 4, which is lot 5
		s.Lots, s.Given = append(s.Lots, s.Lots[2]), 5
		s.Lots[2].Units, s.Lots[3].Units, s.Lots[3].ID = 2, 1, 5
		s.Lots[0].Order, s.Lots[3].Order, s.Orders[1].State = 2, 2, allocated
	})
	d.then(free(2), 0, func(s *house.State) { s.Lots[0].Order, s.Lots[3].Order, s.Orders[1].State = 0, 0, open })
	d.then(allocate(2), 2, func(s *house.State) { // of two that end at once, that of the lesser ID; 1 unit of it, which is lot 6
		s.Lots, s.Given = append(s.Lots, s.Lots[2]), 6
		s.Lots[2].Units, s.Lots[4].Units, s.Lots[4].ID = 1, 1, 6
		s.Lots[0].Order, s.Lots[4].Order, s.Orders[1].State = 2, 2, allocated
	})
	d.then(hold(6), 0, func(s *house.State) {
		s.Lots[4].Status, s.Lots[4].Order, s.Lots[0].Order, s.Orders[1].State = api.Held, 0, 0, open
	})
	d.then(want(2, 2), 3, func(s *house.State) { s.Orders = append(s.Orders, api.Order{ID: 3, Product: 2, Units: 2}) })
	d.then(allocate(3), 1, func(s *house.State) { // 2 of lot 1's 5 units, which are lot 7
		s.Lots, s.Given = append(s.Lots, s.Lots[0]), 7
		s.Lots[0].Units, s.Lots[5].Units, s.Lots[5].ID = 3, 2, 7
		s.Lots[5].Order, s.Orders[2].State = 3, allocated
	})
	d.then(reject(7), 0, func(s *house.State) {
		s.Lots[5].Status, s.Lots[5].Order, s.Orders[2].State = api.Rejected, 0, open
	})
	d.then(allocate(3), 1, func(s *house.State) {
		s.Lots, s.Given = append(s.Lots, s.Lots[0]), 8
		s.Lots[0].Units, s.Lots[6].Units, s.Lots[6].ID = 1, 2, 8
		s.Lots[6].Order, s.Orders[2].State = 3, allocated
	})
	d.then(split(8, 1), 9, func(s *house.State) {
		s.Lots, s.Given = append(s.Lots, s.Lots[6]), 9
		s.Lots[6].Units, s.Lots[7].Units, s.Lots[7].ID = 1, 1, 9
	})
	d.then(tick(1), 10, func(s *house.State) { s.Now = 10 })
	d.then(move(8, 1), 0, func(s *house.State) { s.Lots[6].Stays = []api.Stay{stay(3, 7, 10), on(1, 10)} })
}

// papers are what is shipped: by order 3 lots 8 and 9, of which 9 has gone through just what it may, by a reading that came late; by order 4 lot 10, which goes at once, so that it was never anywhere.
func (d *day) papers() {
	d.t.Helper()
	d.then(asked(api.AddZone, 4, 86, 0, 1, 1), 4, func(s *house.State) {
		s.Zones = append(s.Zones, api.Zone{ID: 4, Worst: 86, Room: 1, Dock: true})
		s.Readings, s.Marks = append(s.Readings, nil), append(s.Marks, nil)
	})
	d.then(move(9, 4), 0, func(s *house.State) { s.Lots[7].Stays = []api.Stay{stay(3, 7, 10), on(4, 10)} })
	d.then(tick(1), 11, func(s *house.State) { s.Now = 11 })
	d.then(air(3, 8, 0, 32), 1, func(s *house.State) { s.Readings[2] = append(s.Readings[2], api.Reading{Minute: 8, Tenths: 32}) })
	d.then(ship(3), 2, func(s *house.State) { // minutes 8 and 9 were 2 each; minute 10 was 56 to lot 9
		s.Certs = []api.Cert{{ID: 1, Order: 3, Lot: 8, Product: 2, Units: 1, Minute: 11, Exposure: 4, Allowance: 60}, {ID: 2, Order: 3, Lot: 9, Product: 2, Units: 1, Minute: 11, Exposure: 60, Allowance: 60}}
		s.Lots[6].Status, s.Lots[6].Stays = api.Shipped, []api.Stay{stay(3, 7, 10), stay(1, 10, 11)}
		s.Lots[7].Status, s.Lots[7].Stays = api.Shipped, []api.Stay{stay(3, 7, 10), stay(4, 10, 11)}
		s.Orders[2].State = shipped
	})
	d.then(receive(2, 1, 1, 50), 10, func(s *house.State) {
		s.Lots, s.Given = append(s.Lots, api.Lot{ID: 10, Product: 2, Units: 1, Expiry: 50, Stays: []api.Stay{on(1, 11)}}), 10
	})
	d.then(hold(10), 0, func(s *house.State) { s.Lots[8].Status = api.Held })
	d.then(review(10, most), 0, func(s *house.State) { s.Lots[8].Status, s.Lots[8].Grant = api.Released, most })
	d.then(want(2, 1), 4, func(s *house.State) { s.Orders = append(s.Orders, api.Order{ID: 4, Product: 2, Units: 1}) })
	d.then(allocate(4), 1, func(s *house.State) { s.Lots[8].Order, s.Orders[3].State = 4, allocated })
	d.then(ship(4), 1, func(s *house.State) {
		s.Certs = append(s.Certs, api.Cert{ID: 3, Order: 4, Lot: 10, Product: 2, Units: 1, Minute: 11, Allowance: most})
		s.Lots[8].Status, s.Lots[8].Stays, s.Orders[3].State = api.Shipped, nil, shipped
	})
	d.then(air(3, 8, 0, 33), 1, func(s *house.State) { s.Readings[2][3].Tenths = 33 })
	d.flags(2)
}

// P20.1: a model without events is as a house without anything.
func TestNew(t *testing.T) {
	for _, m := range []*model.Model{model.New(), model.Of(), model.Of(nil...), model.Of([]api.Command{}...)} {
		p := &pair{t: t, m: m, h: house.New()}
		if m == nil {
			t.Fatal("nil")
		}
		p.have("New")
		if s := m.Dump(); s.Now != 0 || s.Given != 0 || len(s.Zones)+len(s.Products)+len(s.Readings)+len(s.Marks)+len(s.Lots)+len(s.Orders)+len(s.Certs) != 0 {
			t.Errorf("Dump: %v", s)
		}
		if len(m.Events()) != 0 || len(m.Recall()) != 0 {
			t.Errorf("Events, Recall: %v, %v", m.Events(), m.Recall())
		}
		for _, id := range append(wild(), 1, 16) {
			if n, e := m.Exposure(id); n != 0 || e != api.ErrNone {
				t.Errorf("Exposure(%d): %d, error %d", id, n, e)
			}
		}
		p.no(api.ErrNone, air(1, 0, 0, 10), door(1, 0, 0, true), receive(1, 1, 1, 1), move(1, 1), split(1, 1), merge(1, 2), release(1), hold(1), review(1, 1), reject(1), want(1, 1), allocate(1), free(1), ship(1))
		p.ok(1, tick(1))
	}
}

// anything is one command of each kind, that may be.
func anything() []api.Command {
	return []api.Command{air(1, 0, 0, 10), tick(1), addZone(api.Zone{ID: 9}), addProduct(9, 1, 1), receive(1, 1, 1, 1), move(1, 2), split(1, 1), merge(1, 2), release(1), hold(1), review(1, 1), reject(1), want(1, 1), allocate(1), free(1), ship(1)}
}

// misformed are commands that may not be.
func misformed() (l []api.Command) {
	for _, k := range []api.Kind{-1, 16, 17, 255, 256, math.MinInt, math.MaxInt} {
		l = append(l, api.Command{Kind: k}, asked(k, 1))
	}
	numbers := []int{0, 1, 5, 3, 4, 2, 2, 2, 1, 1, 2, 1, 2, 1, 1, 1}
	for _, c := range anything() {
		for at := numbers[c.Kind]; at < 5; at++ {
			for _, n := range []int{1, -1, math.MinInt} {
				wrong := c
				*[]*int{&wrong.A, &wrong.B, &wrong.C, &wrong.D, &wrong.E}[at] = n
				l = append(l, wrong)
			}
		}
		if c.Kind != api.Sense {
			c.Bytes = []byte{0}
			l = append(l, c)
		}
	}
	return append(l, sense(make([]byte, 65)), sense(make([]byte, 1000)))
}

// P1, rule 8: a nil model, whatever else is wrong.
func TestNil(t *testing.T) {
	var m *model.Model
	for _, c := range append(append(anything(), misformed()...), tick(0), sense(nil)) {
		if n, e := m.Do(c); n != 0 || e != api.ErrArg {
			t.Errorf("%v: %d, error %d", c, n, e)
		}
	}
	for _, id := range append(wild(), 1) {
		if n, e := m.Exposure(id); n != 0 || e != api.ErrArg {
			t.Errorf("Exposure(%d): %d, error %d", id, n, e)
		}
	}
	if len(m.Events()) != 0 || len(m.Recall()) != 0 || fmt.Sprint(m.Dump()) != fmt.Sprint(house.State{}) {
		t.Error("a nil model has something")
	}
}

// P20.1: of what may not be no event comes, and the model isn't settled; bytes that are none, and an empty list of them, are none of any kind's.
func TestForm(t *testing.T) {
	p := unsettled(t)
	p.no(api.ErrForm, misformed()...)
	p.is(1, api.Released, 1)
	c := tick(3)
	c.Bytes = []byte{}
	p.ok(13, c)
	p.no(api.ErrForm, sense([]byte{}), sense(nil))
}

// P20.1, Sense: each of its errors, ahead of those that come behind it; it does not settle.
func TestSenseErrors(t *testing.T) {
	p := unsettled(t)
	for _, n := range []int{0, 1, 2, 9, 11, 16, 18, 63, 64} {
		p.no(api.ErrForm, sense(make([]byte, n)))
	}
	for _, c := range []api.Command{air(1, 0, 0, 45), door(1, 0, 0, true), air(4, 19, 9, 45), door(4, 19, 9, true)} {
		for at := range c.Bytes {
			turned := slices.Clone(c.Bytes)
			turned[at] ^= 16
			p.no(api.ErrSum, sense(turned))
		}
		for _, zone := range []byte{0, 17, 255} {
			none := slices.Clone(c.Bytes[:len(c.Bytes)-2])
			none[1] = zone
			p.no(api.ErrForm, sense(check.Seal(none)))
		}
	}
	p.no(api.ErrNone, air(4, 0, 0, 45), door(4, 0, 0, true), air(16, 11, 0, 45), door(16, 11, 0, true))
	p.no(api.ErrFuture, air(3, 11, 0, 45), door(3, 11, 0, true), air(1, end-1, 0, 45), door(1, end-1, 0, true))
	p.ok(1, air(3, 10, 0, 45), door(3, 10, 0, true), air(3, 0, 0, 1<<40), air(2, 0, 0, -1<<40))
	p.is(1, api.Released, 1)
	p.is(3, api.Released, 0)
}

// P20.1: each error of the other kinds; no event comes of it, and nothing of the settling ahead of it stays.
func TestErrors(t *testing.T) {
	p := unsettled(t)
	p.no(api.ErrArg, tick(0), tick(-1), tick(-11), tick(end-10), tick(end), tick(1<<32+1), tick(math.MinInt), tick(math.MaxInt), tick(math.MaxInt-9))
	for _, wrong := range []api.Zone{{ID: 0}, {ID: 17}, {ID: -1}, {ID: 4, Worst: 1<<40 + 1}, {ID: 4, Worst: -1<<40 - 1}, {ID: 4, Gap: -1}, {ID: 4, Gap: end}, {ID: 4, Room: -1}, {ID: 4, Room: end + 1}, {ID: 4, Ajar: end}, {ID: 4, Ajar: -1}, {ID: 4, Ajar: -1, Dock: true}, {ID: 1, Gap: -1}, {ID: 4, Ajar: math.MinInt / 2}} {
		p.no(api.ErrArg, addZone(wrong))
	}
	p.no(api.ErrTwice, addZone(api.Zone{ID: 1}), addZone(api.Zone{ID: 2}), addZone(api.Zone{ID: 3}))
	p.no(api.ErrArg, addProduct(0, 0, 0), addProduct(17, 0, 0), addProduct(-1, 0, 0), addProduct(3, 1<<40+1, 0), addProduct(3, -1<<40-1, 0), addProduct(3, 0, -1), addProduct(3, 0, most+1), addProduct(1, 0, -1))
	p.no(api.ErrTwice, addProduct(1, 0, 0), addProduct(2, 1, 1))
	stockErrors(p)
	keepErrors(p)
	orderErrors(p)
	p.is(1, api.Released, 1)
	p.is(2, api.Released, 1)
	p.is(3, api.Released, 0)
	p.ok(11, tick(1))
	p.is(1, api.Held, 0)
	p.is(2, api.Released, 0)
	p.is(3, api.Held, 0)
}

// stockErrors are those of Receive, Move, Split, and Merge.
func stockErrors(p *pair) {
	p.t.Helper()
	p.no(api.ErrArg, receive(1, 1, 0, 9), receive(1, 1, -1, 9), receive(1, 1, end+1, 9), receive(1, 1, 1, -1), receive(1, 1, 1, end), receive(3, 4, 0, 9), receive(3, 4, 1, end), receive(1, 1, math.MinInt, 9), receive(1, 1, math.MaxInt, 9))
	p.no(api.ErrNone, receive(3, 1, 1, 9), receive(1, 4, 1, 9), receive(0, 1, 1, 9), receive(1, 0, 1, 9), receive(3, 2, end, 9), receive(math.MaxInt, 1, 1, 9), receive(1, math.MinInt, 1, 9))
	p.no(api.ErrFull, receive(1, 2, 6, 9), receive(1, 1, end, 9))
	p.no(api.ErrNone, move(9, 1), move(1, 4), move(0, 1), move(1, 0), move(7, 4), move(9, 4))
	p.no(api.ErrState, move(7, 1), move(7, 2))
	p.no(api.ErrFull, move(3, 2))
	p.no(api.ErrArg, split(1, 0), split(1, -1), split(1, 8), split(1, 9), split(7, 2), split(1, math.MinInt), split(1, math.MaxInt))
	p.no(api.ErrState, split(7, 1))
	p.no(api.ErrArg, merge(1, 1), merge(7, 7))
	p.no(api.ErrState, merge(7, 1))
	p.no(api.ErrUnlike, merge(1, 7), merge(1, 2), merge(5, 6), merge(8, 5))
	for _, id := range append(wild(), 9) {
		p.no(api.ErrNone, move(id, 1), split(id, 1), split(id, 0), merge(1, id), merge(id, 1), merge(id, id))
	}
}

// keepErrors are those of Release, Hold, Review, and Reject.
func keepErrors(p *pair) {
	p.t.Helper()
	p.no(api.ErrState, release(1), release(4), release(6), release(7), hold(7), reject(7), review(4, 0), review(5, 0), review(7, most))
	p.no(api.ErrOver, release(5), review(6, 0), review(6, 9), review(1, 9), review(3, 0))
	p.no(api.ErrArg, review(6, -1), review(6, most+1), review(4, -1), review(7, math.MinInt))
	for _, id := range append(wild(), 9) {
		p.no(api.ErrNone, release(id), hold(id), review(id, 0), review(id, -1), reject(id))
	}
}

// orderErrors are those of Want, Allocate, Free, and Ship; order 1 is open where they are done, as it is let go ahead, and no lots but 2 are left for it.
func orderErrors(p *pair) {
	p.t.Helper()
	for _, id := range append(wild(), 3, 17) {
		p.no(api.ErrNone, want(id, 1), want(id, 0))
	}
	p.no(api.ErrArg, want(1, 0), want(1, -1), want(1, end+1), want(1, math.MinInt), want(1, math.MaxInt))
	for _, id := range append(wild(), 5, 64, 65) {
		p.no(api.ErrNone, allocate(id), free(id), ship(id))
	}
	p.no(api.ErrState, allocate(2), allocate(4), free(1), free(2), free(3), ship(1), ship(2), ship(3))
	p.no(api.ErrShort, allocate(1))
}

// P20.1: what was held by a command that settled is held for all that comes behind, also if it is known then that it wasn't so warm; each kind but Sense settles.
func TestSettles(t *testing.T) {
	all := []api.Command{tick(1), addZone(api.Zone{ID: 4}), addProduct(3, 0, 0), receive(1, 1, 1, 99), move(8, 1), split(5, 1), merge(1, 3), release(8), hold(4), review(6, 10), reject(3), want(2, 1), allocate(3), free(4), ship(4)}
	for at, c := range all {
		if c.Kind != api.Kind(at+1) {
			t.Fatalf("kind %d is not tried", at+1)
		}
		p := unsettled(t)
		if _, e := p.try(c); e != api.OK {
			t.Fatalf("%v: error %d", c, e)
		}
		p.is(1, api.Held, 0)
		p.is(2, api.Released, 0)
		if o := p.m.Dump().Orders[0]; o.State != open {
			t.Fatalf("%v: %v", c, o)
		}
		p.ok(1, air(1, 2, 1, 0))
		p.exposed(1, 0)
		p.ok(0, tick(1), move(1, 1))
		p.is(1, api.Held, 0)
		p.no(api.ErrState, release(1))
		p.ok(0, review(1, 0))
		p.is(1, api.Released, 0)
	}
}

// P20.1: a lot that the settling ahead of a review holds is reviewed by it; one that went over in the minutes of a tick is held by the next command.
func TestSettlesFirst(t *testing.T) {
	p := unsettled(t)
	p.ok(0, review(1, 10))
	p.is(1, api.Released, 0)
	p.is(2, api.Released, 0)
	p.ok(0, move(1, 3))
	p.ok(11, tick(1))
	p.exposed(1, 120)
	p.is(1, api.Released, 0)
	p.ok(0, move(2, 2))
	p.is(1, api.Held, 0)
}

// P20.1: where it was known that a lot is over, and where a command with an error would have held it, it is not held, if it is known to be less warm, when the next one is done.
func TestSettlesNot(t *testing.T) {
	for _, wrong := range [][]api.Command{nil, {tick(0)}, {ship(1), allocate(1), review(1, 9)}, {{Kind: 16}, sense(nil), air(1, 11, 0, 900)}} {
		p := unsettled(t)
		for _, c := range wrong {
			if _, e := p.try(c); e == api.OK {
				t.Fatalf("%v: no error", c)
			}
		}
		p.ok(1, air(1, 2, 1, 139))
		p.ok(11, tick(1))
		p.is(1, api.Released, 1)
		p.is(2, api.Released, 1)
		p.exposed(1, 99)
		p.ok(0, free(1), release(5))
	}
}

// P20.1, Tick: up to 2^20 less 1, at which the last minutes count as all do.
func TestTickEnds(t *testing.T) {
	p := furnished(t)
	p.ok(2, receive(2, 3, 5, end-1), receive(1, 2, 5, end-1))
	p.ok(end-2, tick(end-2))
	p.no(api.ErrArg, tick(2), tick(end-1))
	p.ok(end-1, tick(1))
	p.no(api.ErrArg, tick(1), tick(0), tick(-1), tick(math.MaxInt), tick(end-1))
	p.exposed(1, 10*(end-1))
	p.exposed(2, 0)
	q := twins(t)
	q.ok(end-1, tick(end-1))
	q.no(api.ErrArg, tick(1))
}

// P20.1, AddZone and AddProduct: all sixteen, with numbers at their ends, in whatever order they come.
func TestPlaces(t *testing.T) {
	p := twins(t)
	for _, id := range []int{16, 1, 9, 2, 15, 3, 8, 4, 12, 5, 11, 6, 14, 7, 10, 13} {
		p.ok(id, addZone(api.Zone{ID: id, Worst: 1 << 40, Gap: end - 1, Room: end, Dock: id%2 == 0, Ajar: end - 1}))
		p.ok(id, addProduct(id, -1<<40, most))
		p.ok(1, air(id, 0, 65535, -1<<40), door(id, 0, 65535, true))
		p.no(api.ErrTwice, addZone(api.Zone{ID: id}), addProduct(id, 0, 0))
	}
	s := p.m.Dump()
	for at := range 16 {
		if z := (api.Zone{ID: at + 1, Worst: 1 << 40, Gap: end - 1, Room: end, Dock: at%2 == 1, Ajar: end - 1}); s.Zones[at] != z || len(s.Readings[at]) != 1 || len(s.Marks[at]) != 1 {
			t.Errorf("%v, not %v", s.Zones[at], z)
		}
		if want := (api.Product{ID: at + 1, Limit: -1 << 40, Budget: most}); s.Products[at] != want {
			t.Errorf("%v, not %v", s.Products[at], want)
		}
	}
	q := twins(t)
	q.ok(2, addZone(api.Zone{ID: 2, Worst: -1 << 40}), addProduct(2, 1<<40, 0))
}

// P20.1, Receive and Move: a zone may be full, to the last unit.
func TestRoom(t *testing.T) {
	p := furnished(t)
	p.ok(1, receive(1, 2, 14, 0))
	p.no(api.ErrFull, receive(1, 2, 2, 0))
	p.ok(3, receive(1, 2, 1, end-1), receive(1, 1, 1, 9))
	p.no(api.ErrFull, receive(1, 2, 1, 9), move(3, 2))
	p.ok(0, move(2, 2), move(2, 1), move(3, 2))
	p.no(api.ErrFull, move(2, 2))
	p.ok(4, split(1, 3))
	p.ok(0, move(4, 3), move(2, 2))
	p.ok(5, receive(2, 2, 2, 9))
	p.no(api.ErrFull, receive(1, 2, 1, 9))
}

// P20.1: no more than 256 lots ever come; one more is refused, be it received, split, or picked in part, also if others are gone.
func TestLotsFull(t *testing.T) {
	p := furnished(t)
	for id := 1; id < lastLot; id++ {
		p.ok(id, receive(1, 1, 3, min(100+id, 350)))
	}
	p.ok(3, release(1), release(2), release(3), want(1, 4), want(1, 4), want(1, 5))
	p.ok(0, merge(lastLot-1, lastLot-2))
	p.ok(2, allocate(1)) // lot 1 whole, and 1 unit of lot 2, which is lot 256
	p.is(lastLot, api.Released, 1)
	p.no(api.ErrFull, allocate(2), receive(1, 1, 3, 100), split(3, 1), split(9, 1))
	p.no(api.ErrArg, split(3, 3), receive(1, 1, 0, 100))
	p.no(api.ErrNone, receive(9, 1, 1, 1))
	p.is(2, api.Released, 0)
	p.ok(2, allocate(3)) // lots 2 and 3, both whole
	p.no(api.ErrShort, allocate(2))
	p.no(api.ErrNone, split(lastLot+1, 1))
}

// P20.1, Want: up to 64 orders.
func TestOrdersFull(t *testing.T) {
	p := furnished(t)
	for id := 1; id <= lastWant; id++ {
		p.ok(id, want(1+id%2, end-id+1))
	}
	p.no(api.ErrArg, want(1, 0))
	p.no(api.ErrNone, want(3, 1))
	p.no(api.ErrFull, want(1, 1), want(2, end))
	p.no(api.ErrNone, allocate(lastWant+1))
	p.no(api.ErrShort, allocate(lastWant))
}

// P20.1, Allocate: those first that end first; just those of the product that are released, not old, and nobody's.
func TestAllocate(t *testing.T) {
	p := furnished(t)
	p.ok(8, receive(1, 1, 4, 30), receive(1, 1, 4, 20), receive(2, 1, 4, 11), receive(1, 1, 4, 10), receive(1, 1, 4, 11), receive(1, 1, 4, 12), receive(1, 1, 4, 20), receive(1, 1, 4, 40))
	p.ok(10, release(1), release(2), release(3), release(4), release(5), release(6), release(7), release(8), hold(6), tick(10))
	p.ok(1, want(1, 21)) // lots 5, 2, 7, 1, 8 have 20; 4 is old, just now
	p.no(api.ErrShort, allocate(1))
	p.ok(2, want(1, 5))
	p.ok(2, allocate(2)) // lot 5 whole, and 1 of lot 2's units, which is lot 9
	p.is(5, api.Released, 2)
	p.is(9, api.Released, 2)
	p.is(2, api.Released, 0)
	p.ok(3, want(1, 15))
	p.ok(4, allocate(3))
	p.ok(4, want(1, 1))
	p.no(api.ErrShort, allocate(4))
	p.ok(0, free(3))
	p.is(8, api.Released, 0)
	p.ok(1, allocate(4)) // of lots 2 and 7, which end at once, 1 unit of the first one
	p.is(10, api.Released, 4)
	p.ok(5, want(1, 14))
	p.ok(4, allocate(5))
	p.is(2, api.Released, 5)
	p.is(7, api.Released, 5)
	p.is(1, api.Released, 5)
	p.is(8, api.Released, 5)
}

// P20.1, Ship: of the first of the lots that has one the error, that of its status, its age and what it has gone through ahead of the dock's; none is shipped then.
func TestShip(t *testing.T) {
	p := furnished(t)
	p.ok(3, receive(1, 2, 4, 50), receive(1, 1, 4, 20), receive(1, 1, 4, 90))
	p.ok(3, release(1), release(2), release(3), want(1, 12), allocate(1))
	p.ok(19, tick(19))
	p.no(api.ErrDock, ship(1))
	p.ok(20, tick(1))
	p.no(api.ErrDock, ship(1)) // lot 1 stands at no dock; lot 2 is old
	p.ok(0, move(1, 1), move(2, 2))
	p.no(api.ErrOld, ship(1)) // which lot 2 is, at no dock
	p.ok(0, free(1))
	p.ok(2, want(1, 8), allocate(2))
	p.ok(2, ship(2))
	p.is(1, api.Shipped, 2)
	p.is(2, api.Released, 0)
	p.is(3, api.Shipped, 2)
	p.no(api.ErrState, ship(2), free(2), allocate(2), move(1, 1), split(1, 2), hold(1), reject(1), release(1), review(1, 1), merge(1, 3))
	p.ok(40, tick(20))
	p.is(1, api.Shipped, 2)
	if c := p.m.Dump().Certs; len(c) != 2 || c[1] != (api.Cert{ID: 2, Order: 2, Lot: 3, Product: 1, Units: 4, Minute: 20, Allowance: 100}) {
		t.Errorf("Certs: %v", c)
	}
}

// P20.1, Hold and Reject: of a lot in each status, with and without an order; the order is let go, and its other lots are nobody's.
func TestOut(t *testing.T) {
	for _, k := range []api.Kind{api.Hold, api.Reject} {
		is := map[api.Kind]api.Status{api.Hold: api.Held, api.Reject: api.Rejected}[k]
		p := furnished(t)
		p.ok(4, receive(1, 1, 4, 50), receive(1, 1, 4, 50), receive(1, 1, 4, 50), receive(1, 1, 4, 50))
		p.ok(3, release(1), release(2), release(3), want(1, 12), allocate(1))
		p.ok(0, asked(k, 2), asked(k, 4))
		p.is(1, api.Released, 0)
		p.is(2, is, 0)
		p.is(3, api.Released, 0)
		p.is(4, is, 0)
		if o := p.m.Dump().Orders[0]; o.State != open {
			t.Errorf("%v", o)
		}
		if k == api.Hold {
			p.ok(0, hold(2), reject(4))
		}
		p.no(api.ErrState, hold(4), reject(4), release(4), review(4, 0))
	}
}

// P20.1, Merge: lots that are alike, in each number but ID and Units.
func TestMerge(t *testing.T) {
	p := furnished(t)
	p.ok(7, addProduct(3, 40, 100), receive(1, 1, 4, 50), receive(3, 1, 4, 50), receive(1, 1, 4, 51), receive(1, 3, 4, 50), receive(1, 1, 4, 50), receive(1, 1, 5, 50), receive(1, 1, 6, 50))
	p.no(api.ErrUnlike, merge(1, 2), merge(2, 1), merge(1, 3), merge(1, 4))
	p.ok(0, merge(6, 1), merge(6, 5), hold(6), hold(7), review(6, 1), review(7, 2))
	p.no(api.ErrUnlike, merge(6, 7)) // grants
	p.ok(0, hold(6), review(6, 1))
	p.ok(8, split(6, 7))
	p.ok(1, want(1, 6), allocate(1)) // lot 6
	p.no(api.ErrUnlike, merge(6, 8), merge(8, 6))
	p.ok(9, split(6, 1))
	p.ok(0, merge(9, 6), free(1), merge(8, 9))
	if l := p.m.Dump().Lots; len(l) != 5 || l[4].ID != 8 || l[4].Units != 13 || l[4].Grant != 2 {
		t.Errorf("Lots: %v", l)
	}
	p.no(api.ErrNone, merge(8, 9), merge(6, 8), split(1, 1))
}
