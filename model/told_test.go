package model_test

import (
	"fmt"
	"math"
	"slices"
	"testing"

	"hoarfrost/api"
	"hoarfrost/command"
	"hoarfrost/house"
	"hoarfrost/model"
)

// P20.1, and the second and the third example: ten minutes, of which six were heard of.
func TestExamples(t *testing.T) {
	p := twins(t)
	p.ok(10, addZone(api.Zone{ID: 1, Worst: 100, Gap: 5, Room: 9}), addProduct(1, 40, 0), receive(1, 1, 9, 9), tick(10))
	p.exposed(1, 600)
	p.ok(1, air(1, 2, 0, 45))
	p.exposed(1, 270)
}

// P20.1, Exposure: of a lot that is there, at once and later; one that moved, was split off, merged away; one that is not there.
func TestExposure(t *testing.T) {
	p := furnished(t)
	p.ok(3, addProduct(3, -5, 9), receive(1, 3, 5, 90), receive(3, 3, 5, 90), receive(2, 1, 5, 90))
	for id := 1; id <= 3; id++ {
		p.exposed(id, 0)
	}
	p.ok(4, tick(4))
	p.exposed(1, 40)
	p.exposed(2, 220)
	p.exposed(3, 0)
	p.ok(4, split(1, 2))
	p.exposed(4, 40)
	p.ok(0, move(1, 1))
	p.ok(6, tick(2))
	p.exposed(1, 40)
	p.exposed(4, 60)
	p.ok(1, air(3, 6, 0, 999)) // of NOW, which is still to go by
	p.exposed(4, 60)
	p.ok(7, tick(1))
	p.exposed(4, 60+959)
	p.ok(1, air(3, 6, 1, 0))
	p.exposed(4, 60)
	p.ok(1, air(3, 2, 0, 41)) // minutes 2 to 5
	p.exposed(4, 24)
	p.exposed(1, 22)
	p.exposed(2, 2*55+4*46+5)
	p.ok(5, split(4, 1))
	p.ok(0, merge(5, 4))
	p.exposed(5, 24)
	for _, id := range append(wild(), 4, 6) {
		if n, e := p.m.Exposure(id); n != 0 || e != api.ErrNone {
			t.Errorf("Exposure(%d): %d, error %d", id, n, e)
		}
	}
}

// P20.1, Exposure: of a lot that is shipped up to then, whatever comes behind; of one that came back; of stays that are many.
func TestExposureStays(t *testing.T) {
	p := furnished(t)
	p.ok(2, receive(1, 3, 5, 9000), receive(1, 2, 1, 9000))
	for minute := 1; minute <= 40; minute++ {
		p.ok(0, tick(1), move(1, 1+2*(minute/2%2)), move(2, 1+minute%2))
	}
	p.exposed(1, 10+20*10)
	p.ok(1, air(2, 0, 0, 50), air(2, 5, 0, 60), air(1, 1, 0, 47), air(1, 7, 0, 1))
	p.exposed(2, 10+20+3*7) // minutes 0 and 5 in zone 2, which has no gap; minutes 2, 4, and 6 in zone 1
	p.ok(0, hold(2), review(2, most))
	p.ok(1, want(1, 1), allocate(1), move(2, 1), ship(1))
	n, _ := p.m.Exposure(2)
	p.ok(90, tick(50))
	p.ok(1, air(1, 40, 0, 900), air(2, 40, 5, 900), air(3, 0, 0, 900), air(1, 39, 0, 900))
	p.exposed(2, n)
}

// P20.1, Exposure: as many minutes, and tenths, as there can be; an allowance at the most.
func TestExposureEnds(t *testing.T) {
	l := []api.Command{addZone(api.Zone{ID: 1, Worst: 1 << 40, Room: end, Dock: true}), addProduct(1, -1<<40, most), receive(1, 1, end, end-1), release(1), want(1, end), tick(end - 1)}
	m := model.Of(l...)
	if n, e := m.Exposure(1); n != (end-1)<<41 || e != api.OK {
		t.Errorf("Exposure(1): %d, error %d", n, e)
	}
	if len(m.Events()) != len(l) {
		t.Errorf("Events: %v", m.Events())
	}
}

// gone is at minute 10, with lots that were shipped then: 1 (from zone 1), 2 (which was in zone 3 from minute 7 to 8, and has a grant of 7), and 3 (which came at minute 8).
func gone(t *testing.T) *pair {
	t.Helper()
	p := furnished(t)
	p.ok(7, receive(1, 1, 5, 50), receive(1, 1, 5, 50), tick(7))
	p.ok(8, move(2, 3), tick(1))
	p.ok(3, move(2, 1), receive(1, 1, 5, 50))
	p.ok(10, release(1), release(2), release(3), hold(2), review(2, 7), tick(2))
	p.ok(3, want(1, 15), allocate(1), ship(1))
	p.flags()
	return p
}

// P20.1, Exposure and Recall, and the eighth example: readings come late, twice, in another order, of greater tenths at the same number, and of less.
func TestRecall(t *testing.T) {
	p := gone(t)
	p.ok(1, air(1, 4, 0, 66)) // minutes 4 to 9: 6 of 26; lot 2 has 5 of them, and 10
	p.exposed(1, 156)
	p.exposed(2, 26*3+10+26*2)
	p.exposed(3, 52)
	p.flags(1, 2)
	p.ok(0, air(1, 4, 0, 66), air(1, 4, 0, 65))
	p.flags(1, 2)
	p.ok(1, air(1, 6, 0, 40))
	p.exposed(1, 52)
	p.flags()
	p.ok(1, air(1, 8, 0, 90)) // 50 each in 8 and 9
	p.flags(1, 2)
	p.ok(1, air(1, 8, 0, 91))
	p.exposed(3, 102)
	p.flags(1, 2, 3)
	p.ok(0, air(1, 8, 0, 90))
	p.flags(1, 2, 3)
	p.ok(60, tick(50))
	p.flags(1, 2, 3)
	p.ok(1, air(1, 8, 1, 0))
	p.flags()
	p.ok(1, air(1, 8, 0, 1<<40)) // that one counts no more
	p.flags()
}

// P20.1, Recall: by what is above the allowance, and a grant belongs to that; of what was elsewhere, not there yet, or behind the shipment, nothing counts.
func TestRecallAllowance(t *testing.T) {
	p := gone(t)
	p.ok(1, air(3, 7, 0, 147))
	p.exposed(2, 107)
	p.flags()
	p.ok(1, air(3, 7, 0, 148))
	p.flags(2)
	q := gone(t)
	q.ok(1, air(1, 5, 0, 140), air(1, 6, 0, 40))
	q.exposed(1, 100)
	q.flags(2)
	q.ok(1, air(1, 5, 0, 141))
	q.flags(1, 2)
	r := gone(t)
	r.ok(14, tick(4))
	r.ok(1, air(1, 10, 0, 1<<40), air(1, 13, 0, 1<<40), air(2, 1, 0, 1<<40), air(3, 8, 0, 1<<40), air(3, 0, 0, 1<<40), air(3, 6, 0, 0))
	r.flags()
}

// P20.1: all orders of a few frames, some of which come twice, of one minute and number, and of others, tell the same.
func TestAllOrders(t *testing.T) {
	few := []api.Command{air(1, 4, 0, 66), air(1, 4, 0, 60), air(1, 4, 1, 45), air(1, 6, 0, 40), door(1, 4, 0, true), door(1, 4, 0, false)}
	first := gone(t).m.Events()
	want := ""
	var all func(l, rest []api.Command)
	all = func(l, rest []api.Command) {
		if len(rest) == 0 {
			m := model.Of(slices.Concat(first, l, []api.Command{l[2], l[0]})...)
			n, _ := m.Exposure(1)
			is := fmt.Sprint(m.Dump(), m.Recall(), n)
			if want == "" {
				want = is
			}
			if is != want || len(m.Events()) != len(first)+len(few)+2 {
				t.Fatalf("%v: %s\nnot %s", l, is, want)
			}
		}
		for at := range rest {
			all(append(slices.Clone(l), rest[at]), slices.Delete(slices.Clone(rest), at, at+1))
		}
	}
	all(nil, few)
}

// P20.1, Events: those alone that were done without an error, in order, also such as changed nothing.
func TestEvents(t *testing.T) {
	m := model.New()
	right := []api.Command{addZone(api.Zone{ID: 1, Room: 9}), addProduct(1, 40, 0), air(1, 0, 0, 45), air(1, 0, 0, 45), receive(1, 1, 5, 9), move(1, 1), tick(1), door(1, 1, 0, false), tick(1)}
	for at, c := range right {
		for _, wrong := range []api.Command{{Kind: 16}, tick(0), ship(1), sense(nil), air(9, 0, 0, 45), air(1, 9, 0, 45), addProduct(0, 0, 0)} {
			m.Do(wrong)
		}
		if l := m.Events(); !slices.EqualFunc(l, right[:at], command.Same) {
			t.Fatalf("Events: %v, not %v", l, right[:at])
		}
		if _, e := m.Do(c); e != api.OK {
			t.Fatalf("%v: error %d", c, e)
		}
	}
	if l := m.Events(); !slices.EqualFunc(l, right, command.Same) {
		t.Errorf("Events: %v, not %v", l, right)
	}
}

// P20.1, Of: commands of all sixteen kinds, of which some have errors, and some may not be, one behind the other.
func TestOf(t *testing.T) {
	d := &day{pair: twins(t)}
	d.all()
	if kinds := kindsOf(d.done); len(kinds) != 16 {
		t.Fatalf("kinds: %v", kinds)
	}
	l := slices.Clone(d.done)
	for at := len(l); at >= 0; at -= 3 {
		l = slices.Insert(l, at, tick(-1), api.Command{Kind: -1}, sense([]byte{1}), free(9), air(1, 90, 0, 0))
	}
	q := &pair{t: t, m: model.Of(l...), h: d.h, done: d.done}
	q.have("Of")
	q.ok(16, tick(5))
	one := model.Of(tick(4), tick(0), tick(3))
	if s := one.Dump(); s.Now != 7 || len(one.Events()) != 2 {
		t.Errorf("Of: %v, %v", s, one.Events())
	}
}

func kindsOf(l []api.Command) map[api.Kind]int {
	kinds := map[api.Kind]int{}
	for _, c := range l {
		kinds[c.Kind]++
	}
	return kinds
}

// fill writes something else into all that a list has, up to its capacity.
func fill[T any](l []T, x T) {
	l = l[:cap(l)]
	for at := range l {
		l[at] = x
	}
}

// spoil does so with all of a state's lists.
func spoil(s house.State) {
	for at := range s.Readings {
		fill(s.Readings[at], api.Reading{Minute: 9, Seq: 77, Tenths: 999})
	}
	for at := range s.Marks {
		fill(s.Marks[at], api.Mark{Minute: 9, Seq: 77, Open: true})
	}
	for at := range s.Lots {
		fill(s.Lots[at].Stays, on(7, 7))
	}
	fill(s.Zones, api.Zone{ID: 7, Room: 1})
	fill(s.Products, api.Product{ID: 7})
	fill(s.Readings, []api.Reading{{Minute: 7}})
	fill(s.Marks, []api.Mark{{Minute: 7}})
	fill(s.Lots, api.Lot{ID: 77})
	fill(s.Orders, api.Order{ID: 77})
	fill(s.Certs, api.Cert{ID: 77})
}

// spoilEvents does so with commands, and their Bytes.
func spoilEvents(l []api.Command) {
	for _, c := range l {
		fill(c.Bytes, 9)
	}
	fill(l, api.Command{Kind: api.Tick, A: 77})
}

// full is a model that has something of all.
func full(t *testing.T) *pair {
	t.Helper()
	p := gone(t)
	p.ok(1, air(1, 4, 0, 66), air(1, 2, 9, 30), air(3, 0, 0, 20), door(2, 3, 4, true), door(2, 1, 0, true))
	p.ok(4, receive(1, 2, 6, 77))
	p.ok(5, split(4, 2))
	p.ok(0, move(5, 3), release(4))
	return p
}

// P20.1, rule 4: what is told, and changed then, changes no model, nor what was told ahead; what a model does changes nothing that it told.
func TestToldApart(t *testing.T) {
	p := full(t)
	state, events, flagged := p.m.Dump(), p.m.Events(), p.m.Recall()
	was := fmt.Sprint(state, events, flagged)
	for range 2 {
		spoil(p.m.Dump())
		spoilEvents(p.m.Events())
		fill(p.m.Recall(), 77)
		p.have("what was told, and changed")
	}
	p.ok(1, air(1, 1, 0, 99), air(1, 4, 0, 68), air(3, 0, 0, 98), door(2, 0, 0, true), door(2, 3, 4, true), want(1, 3), hold(5), tick(1), air(1, 11, 0, 7))
	if is := fmt.Sprint(state, events, flagged); is != was {
		t.Errorf("what was told is %s\nwas %s", is, was)
	}
}

// P20.1, rule 4: commands, and their Bytes, that are handed in, and what lies behind them, stay as they were; changed behind Do, or Of, they change no model.
func TestHandedIn(t *testing.T) {
	roomy := func(l []api.Command) []api.Command {
		l = append(slices.Clone(l), tick(5), tick(6))[:len(l)]
		for at := range l {
			l[at].Bytes = append(slices.Clone(l[at].Bytes), 1, 2, 3)[:len(l[at].Bytes)]
		}
		return l
	}
	shown := func(l []api.Command) string {
		s := fmt.Sprint(l[:cap(l)])
		for _, c := range l {
			s += fmt.Sprint(c.Bytes[:cap(c.Bytes)])
		}
		return s
	}
	p := full(t)
	handed := roomy(p.done)
	was := shown(handed)
	q := &pair{t: t, m: model.Of(handed...), h: p.h, done: p.done}
	one := &pair{t: t, m: model.New(), h: p.h, done: p.done}
	for _, c := range handed {
		one.m.Do(c)
	}
	if shown(handed) != was {
		t.Errorf("what was handed in is %s\nwas %s", shown(handed), was)
	}
	spoilEvents(handed)
	q.have("what was handed to Of, and changed")
	one.have("what was handed to Do, and changed")
}

// P20.1, rule 4: two models of the same events go their own ways.
func TestApart(t *testing.T) {
	p := full(t)
	q := model.Of(p.m.Events()...)
	was := told(q)
	for _, c := range []api.Command{air(1, 1, 0, 99), door(2, 0, 0, true), tick(1), move(4, 1), split(4, 1), hold(4), want(1, 3)} {
		p.m.Do(c)
	}
	if told(q) != was {
		t.Errorf("%s\nwas %s", told(q), was)
	}
	was = told(p.m)
	for _, c := range []api.Command{air(1, 1, 0, 50), tick(math.MaxInt), tick(7), reject(5), addZone(api.Zone{ID: 4})} {
		q.Do(c)
	}
	if told(p.m) != was {
		t.Errorf("%s\nwas %s", told(p.m), was)
	}
}

// P2: what is told hangs not on what was asked between.
func TestAskedTwice(t *testing.T) {
	p, silent := full(t), full(t).m
	for _, c := range []api.Command{air(1, 4, 0, 66), tick(1), air(1, 6, 0, 40), receive(1, 1, 5, 50), tick(90), air(1, 3, 0, 99)} {
		p.have("asked")
		p.have("asked again")
		p.try(c)
		silent.Do(c)
	}
	if told(silent) != told(p.m) {
		t.Errorf("%s\nnot %s", told(silent), told(p.m))
	}
}
