package model_test

import (
	"math/rand/v2"
	"slices"
	"testing"

	"hoarfrost/api"
	"hoarfrost/command"
	"hoarfrost/model"
)

// dice tell numbers that look like any, the same in each run.
type dice struct{ *rand.Rand }

func thrown(seed uint64) dice { return dice{rand.New(rand.NewPCG(seed, 20))} }

func (d dice) one(l ...int) int { return l[d.IntN(len(l))] }

// world is where the dice ask for something, of what there is for the most part.
type world struct {
	dice
	*pair
}

// begin is a small one at minute 3.
func begin(t *testing.T, d dice) world {
	t.Helper()
	p := twins(t)
	p.ok(3,
		addZone(api.Zone{ID: 3, Worst: 44, Gap: 9, Room: 60, Dock: true}),
		addZone(api.Zone{ID: 1, Worst: 41, Gap: 4, Room: 60, Dock: true, Ajar: 2}),
		addZone(api.Zone{ID: 2, Worst: 42, Gap: 0, Room: 20}),
		addProduct(2, 42, 9),
		addProduct(1, 40, 40),
		tick(3),
	)
	return world{d, p}
}

// frame is one that may be heard, for the most part.
func (w world) frame() api.Command {
	s := w.m.Dump()
	minute := max(0, s.Now-w.IntN(12)+w.one(0, 0, 0, 0, 0, 1))
	zone, seq := w.one(1, 1, 2, 3, 3, 4), w.IntN(3)
	if n := len(s.Certs); n > 0 && w.IntN(9) == 0 { // of what was shipped already
		return air(w.one(1, 3), max(0, s.Certs[w.IntN(n)].Minute-1-w.IntN(4)), seq, w.one(0, 0, 60, 90))
	}
	if w.IntN(4) == 0 {
		return door(zone, minute, seq, w.IntN(2) == 0)
	}
	return air(zone, minute, seq, w.one(20, 39, 40, 41, 42, 45, 45, 60, 90))
}

// lot is a lot's ID, of one of these statuses, if there is any.
func (w world) lot(l ...api.Status) int {
	s := w.m.Dump()
	var ids []int
	for _, lot := range s.Lots {
		if len(l) == 0 || slices.Contains(l, lot.Status) {
			ids = append(ids, lot.ID)
		}
	}
	if len(ids) == 0 || w.IntN(12) == 0 {
		return w.IntN(s.Given + 2)
	}
	return w.one(ids...)
}

// order is an order's ID, of one in that state, if there is any.
func (w world) order(state int) int {
	orders := w.m.Dump().Orders
	var ids []int
	for _, o := range orders {
		if o.State == state {
			ids = append(ids, o.ID)
		}
	}
	if len(ids) == 0 || w.IntN(8) == 0 {
		return w.IntN(len(orders) + 2)
	}
	return w.one(ids...)
}

// alike is a merge of two lots that are of one expiry, and where they were, if there are such.
func (w world) alike() api.Command {
	lots := w.m.Dump().Lots
	for _, at := range w.Perm(len(lots)) {
		for _, other := range w.Perm(len(lots)) {
			a, b := lots[at], lots[other]
			if at != other && a.Expiry == b.Expiry && slices.Equal(a.Stays, b.Stays) {
				return merge(a.ID, b.ID)
			}
		}
	}
	return merge(w.lot(), w.lot())
}

// command is any one.
func (w world) command() api.Command {
	now := w.m.Dump().Now
	switch w.IntN(24) {
	case 0, 1, 2, 3:
		return w.frame()
	case 4, 5:
		return tick(w.one(0, 1, 1, 2, 3))
	case 6, 7:
		return receive(w.one(1, 1, 1, 2, 3), w.one(1, 1, 2, 3, 3, 4), w.IntN(9), now+w.one(-9, 5, 15, 30, 30, 60))
	case 8, 9:
		return move(w.lot(), w.one(1, 1, 2, 3, 4))
	case 10:
		return split(w.lot(), w.IntN(6))
	case 11:
		return w.alike()
	case 12, 13, 14:
		return release(w.lot(api.Quarantine))
	case 15:
		return hold(w.lot(api.Released, api.Quarantine))
	case 16, 17:
		return review(w.lot(api.Held), w.one(-1, 0, 5, 50))
	case 18:
		return reject(w.lot(api.Held, api.Rejected))
	case 19:
		return want(w.one(1, 1, 1, 2, 3), w.one(0, 2, 3, 5, 8))
	case 20, 21:
		return allocate(w.order(open))
	case 22:
		if w.IntN(9) > 0 {
			return ship(w.order(allocated))
		}
		return free(w.order(allocated))
	}
	return [...]api.Command{addZone(api.Zone{ID: w.one(0, 1, 4, 4), Worst: 41, Gap: 2, Room: 9, Ajar: -w.IntN(2)}), addProduct(w.one(0, 1, 3, 3), 40, 30), {Kind: 16}, sense(nil), ship(w.order(allocated)), tick(1)}[w.IntN(6)]
}

// P20.2: a house and a model that are asked the same tell the same, have the same, and flag the same, behind each of long rows of commands; each of a kind's errors that there can be comes.
func TestSideBySide(t *testing.T) {
	d := thrown(1)
	seen := map[api.Kind]map[api.Errno]int{}
	for k := api.Sense; k <= api.Ship; k++ {
		seen[k] = map[api.Errno]int{}
	}
	flagged := 0
	for range 300 {
		w := begin(t, d)
		for range 160 {
			c := w.command()
			if _, e := w.try(c); c.Kind <= api.Ship {
				seen[c.Kind][e]++
			}
			flagged += len(w.m.Recall())
		}
	}
	for k, l := range [][]api.Errno{
		{api.ErrForm, api.ErrNone, api.ErrFuture}, {api.ErrArg}, {api.ErrArg, api.ErrTwice}, {api.ErrArg, api.ErrTwice},
		{api.ErrArg, api.ErrNone, api.ErrFull}, {api.ErrNone, api.ErrState, api.ErrFull}, {api.ErrNone, api.ErrArg, api.ErrState}, {api.ErrNone, api.ErrArg, api.ErrState, api.ErrUnlike},
		{api.ErrNone, api.ErrState, api.ErrOver}, {api.ErrNone, api.ErrState}, {api.ErrNone, api.ErrArg, api.ErrState, api.ErrOver}, {api.ErrNone, api.ErrState},
		{api.ErrNone, api.ErrArg}, {api.ErrNone, api.ErrState, api.ErrShort}, {api.ErrNone, api.ErrState}, {api.ErrNone, api.ErrState, api.ErrOld, api.ErrDock},
	} {
		for _, e := range append(l, api.OK) {
			if seen[api.Kind(k)][e] < 5 {
				t.Errorf("kind %d: error %d came %d times", k, e, seen[api.Kind(k)][e])
			}
		}
	}
	if flagged < 100 {
		t.Errorf("flagged: %d", flagged)
	}
}

// P20.2: also where many minutes go by at once, and there are many readings.
func TestLongDays(t *testing.T) {
	d := thrown(2)
	for range 3 {
		w := begin(t, d)
		for range 50 {
			w.try(tick(w.one(1, 20, 90)))
			now := w.m.Dump().Now
			for range 8 {
				w.try(air(w.one(1, 2, 3), w.IntN(now+1), w.IntN(4), w.one(20, 40, 41, 44, 60)))
			}
			for range 4 {
				w.try(w.command())
			}
		}
	}
}

// P20.3: a model of another one's events has what that one has, and the same events, and goes on the same, wherever it was made.
func TestEventsOfAnother(t *testing.T) {
	d := thrown(3)
	for range 25 {
		w := begin(t, d)
		for range 6 {
			for range 25 {
				w.try(w.command())
			}
			other := &pair{t: t, m: model.Of(w.m.Events()...), h: w.h, done: w.done}
			other.have("made of events")
			for range 10 {
				c := w.command()
				n, e := w.try(c)
				if m, f := other.m.Do(c); n != m || e != f {
					t.Fatalf("%v: %d, error %d; where it was made of events: %d, error %d", c, n, e, m, f)
				}
				if a, b := told(w.m), told(other.m); a != b || !slices.EqualFunc(w.m.Events(), other.m.Events(), command.Same) {
					t.Fatalf("%v: %s\nnot %s", c, b, a)
				}
			}
		}
	}
}

// P20.3: all that was asked, with what had errors, leads to the same as what was accepted.
func TestAcceptedAlone(t *testing.T) {
	d := thrown(4)
	for range 25 {
		w := begin(t, d)
		all := w.m.Events()
		for range 150 {
			c := w.command()
			w.try(c)
			all = append(all, c)
		}
		a, b := model.Of(all...), model.Of(w.m.Events()...)
		if len(all) == len(w.done) {
			t.Error("no errors")
		}
		for _, m := range []*model.Model{a, b} {
			(&pair{t: t, m: m, h: w.h, done: w.done}).have("made of events")
		}
	}
}

// P1: numbers of all sizes, for each kind, in a model that has something of all.
func TestAnyNumbers(t *testing.T) {
	d := thrown(5)
	numbers := append(wild(), 1, 1, 1, 2, 2, 3, 4, 5, 9, 16, 40)
	p := full(t)
	for range 6000 {
		k := api.Kind(d.IntN(16))
		var l []int
		for range command.Numbers(k) {
			l = append(l, d.one(numbers...))
		}
		c := asked(k, l...)
		if k == api.Sense {
			for range d.IntN(66) {
				c.Bytes = append(c.Bytes, byte(d.IntN(256)))
			}
		}
		if k == api.Tick && c.A > 9 || k == api.Receive && p.m.Dump().Given > 60 {
			continue
		}
		p.try(c)
	}
}
