package stock_test

import (
	"fmt"
	"math"
	"slices"
	"testing"

	"hoarfrost/api"
	"hoarfrost/master"
	"hoarfrost/stock"
)

// most is the greatest number of units, and the first minute that there is not; last is the greatest ID.
const (
	most = 1 << 20
	last = 256
)

// on is a stay that goes on; stay is one that ended.
func on(zone, from int) api.Stay { return api.Stay{Zone: zone, From: from, To: -1} }

func stay(zone, from, to int) api.Stay { return api.Stay{Zone: zone, From: from, To: to} }

func list(l ...api.Stay) []api.Stay { return l }

// plan is what a master has: of each zone its ID, and Room; products' IDs.
type plan struct {
	rooms    map[int]int
	products []int
	m        *master.Master
}

// planned is a master of that plan.
func planned(t *testing.T, rooms map[int]int, products ...int) plan {
	t.Helper()
	p := plan{rooms: rooms, products: products, m: master.New()}
	for id, room := range rooms {
		if e := p.m.AddZone(api.Zone{ID: id, Worst: 100, Gap: 5, Room: room, Dock: id%2 == 0}); e != api.OK {
			t.Fatalf("AddZone %d: error %d", id, e)
		}
	}
	for _, id := range products {
		if e := p.m.AddProduct(api.Product{ID: id, Limit: 40, Budget: 100}); e != api.OK {
			t.Fatalf("AddProduct %d: error %d", id, e)
		}
	}
	return p
}

// wide is a master with room enough: zones 1 to 4, and 16, products 1, 2 and 16.
func wide(t *testing.T) plan {
	t.Helper()
	return planned(t, map[int]int{1: most, 2: most, 3: most, 4: most, 16: most}, 1, 2, 16)
}

// words is a stock by the words: its lots stand as they came, and all of them are gone through each time.
type words struct {
	lots  []api.Lot
	given int
}

func (w *words) at(id int) int {
	return slices.IndexFunc(w.lots, func(l api.Lot) bool { return l.ID == id })
}

// goes is the last stay, if it goes on; else one in zone 0.
func goes(l api.Lot) api.Stay {
	if n := len(l.Stays); n > 0 && l.Stays[n-1].To == -1 {
		return l.Stays[n-1]
	}
	return api.Stay{}
}

func (w *words) load(zone int) (load int) {
	for _, l := range w.lots {
		if in := goes(l).Zone; in > 0 && in == zone {
			load += l.Units
		}
	}
	return load
}

// come is a lot of the next ID.
func (w *words) come(l api.Lot) int {
	w.given++
	l.ID = w.given
	w.lots = append(w.lots, l)
	return l.ID
}

func (w *words) receive(p plan, product, zone, units, expiry, now int) (int, api.Errno) {
	if units < 1 || units > 1048576 || expiry < 0 || expiry > 1048575 || now < 0 || now > 1048575 {
		return 0, api.ErrArg
	}
	room, there := p.rooms[zone]
	if !there || !slices.Contains(p.products, product) {
		return 0, api.ErrNone
	}
	if w.given == 256 || w.load(zone)+units > room {
		return 0, api.ErrFull
	}
	return w.come(api.Lot{Product: product, Units: units, Expiry: expiry, Stays: list(on(zone, now))}), api.OK
}

// endedAt are stays whose last one, that goes on, ends now.
func endedAt(l []api.Stay, now int) []api.Stay {
	l = slices.Clone(l)
	if n := len(l) - 1; l[n].From == now {
		return l[:n]
	}
	l[len(l)-1].To = now
	return l
}

func (w *words) move(p plan, id, zone, now int) api.Errno {
	at := w.at(id)
	room, there := p.rooms[zone]
	if at < 0 || !there {
		return api.ErrNone
	}
	in := goes(w.lots[at])
	if in.Zone == 0 {
		return api.ErrState
	}
	if in.Zone == zone {
		return api.OK
	}
	if w.load(zone)+w.lots[at].Units > room {
		return api.ErrFull
	}
	if now < in.From {
		return api.ErrArg
	}
	l := endedAt(w.lots[at].Stays, now)
	if n := len(l) - 1; n >= 0 && l[n].Zone == zone {
		l[n].To = -1
	} else {
		l = append(l, on(zone, now))
	}
	w.lots[at].Stays = l
	return api.OK
}

func (w *words) split(id, units int) (int, api.Errno) {
	at := w.at(id)
	switch {
	case at < 0:
		return 0, api.ErrNone
	case units < 1 || units > w.lots[at].Units-1:
		return 0, api.ErrArg
	case goes(w.lots[at]).Zone == 0:
		return 0, api.ErrState
	case w.given == 256:
		return 0, api.ErrFull
	}
	w.lots[at].Units -= units
	l := w.lots[at]
	l.Units, l.Stays = units, slices.Clone(l.Stays)
	return w.come(l), api.OK
}

// alike makes two lots differ in nothing that may differ, and tells whether they do still.
func alike(a, b api.Lot) bool {
	a.ID, a.Units = b.ID, b.Units
	return same(a, b)
}

// same tells whether two lots are one, down to their stays.
func same(a, b api.Lot) bool {
	is := slices.Equal(a.Stays, b.Stays)
	a.Stays, b.Stays = nil, nil
	return is && fmt.Sprint(a) == fmt.Sprint(b)
}

func (w *words) merge(into, from int) api.Errno {
	a, b := w.at(into), w.at(from)
	switch {
	case a < 0 || b < 0:
		return api.ErrNone
	case a == b:
		return api.ErrArg
	case goes(w.lots[a]).Zone == 0:
		return api.ErrState
	case !alike(w.lots[a], w.lots[b]):
		return api.ErrUnlike
	}
	w.lots[a].Units += w.lots[b].Units
	w.lots = slices.Delete(w.lots, b, b+1)
	return api.OK
}

func (w *words) mark(id int, st api.Status, order, grant int) api.Errno {
	at := w.at(id)
	if at < 0 {
		return api.ErrNone
	}
	if st < 0 || st > 4 || order < 0 || grant < 0 {
		return api.ErrArg
	}
	w.lots[at].Status, w.lots[at].Order, w.lots[at].Grant = st, order, grant
	return api.OK
}

func (w *words) leave(id, now int) api.Errno {
	at := w.at(id)
	if at < 0 {
		return api.ErrNone
	}
	in := goes(w.lots[at])
	if in.Zone == 0 || now < in.From {
		return api.ErrArg
	}
	w.lots[at].Stays = endedAt(w.lots[at].Stays, now)
	return api.OK
}

// mayStay tells whether stays may be: each one begins where the one ahead of it ends.
func mayStay(l []api.Stay) bool {
	for i, s := range l {
		goesOn := i == len(l)-1 && s.To == -1
		if s.Zone < 1 || s.From < 0 || !goesOn && s.To <= s.From || i > 0 && l[i-1].To != s.From {
			return false
		}
	}
	return true
}

func (w *words) put(l api.Lot) api.Errno {
	if l.ID <= w.given || l.ID > 256 || l.Units < 1 || l.Units > 1048576 || l.Status < 0 || l.Status > 4 {
		return api.ErrArg
	}
	if !mayStay(l.Stays) || l.Product < 0 || l.Expiry < 0 || l.Grant < 0 || l.Order < 0 {
		return api.ErrArg
	}
	l.Stays = slices.Clone(l.Stays)
	w.lots, w.given = append(w.lots, l), l.ID
	return api.OK
}

func (w *words) give(id int) api.Errno {
	if id < w.given || id > 256 {
		return api.ErrArg
	}
	w.given = id
	return api.OK
}

// pair is a stock, and the one by the words, that are asked the same, and tell the same, and have the same behind each step.
type pair struct {
	t *testing.T
	s *stock.Stock
	w *words
}

func twins(t *testing.T) pair { return pair{t, stock.New(), &words{}} }

// having is a pair with lots that came as they are.
func having(t *testing.T, l ...api.Lot) pair {
	t.Helper()
	p := twins(t)
	for _, one := range l {
		p.put(api.OK, one)
	}
	return p
}

// asked are numbers that are no lot's, and no zone's, whatever came; some would be, if they wrapped round.
func asked() []int {
	return []int{0, -1, -2, 257, 258, 512, 1<<16 + 1, 1 << 20, 1<<32 + 1, -1<<32 + 1, math.MinInt, math.MinInt + 1, math.MaxInt - 1, math.MaxInt}
}

// byWords is wanted where what it is by the words is enough.
const byWords api.Errno = -1

// told wants what is told to be what it is by the words (m, f), and what is wanted, and the stock to have what it has then by the words.
func (p pair) told(what string, n int, e api.Errno, m int, f, want api.Errno) (int, api.Errno) {
	p.t.Helper()
	if n != m || e != f || want != byWords && e != want {
		p.t.Fatalf("%s: %d, error %d; by the words %d, error %d; wanted error %d", what, n, e, m, f, want)
	}
	p.have()
	return n, e
}

// have wants the stock to have what it has by the words.
func (p pair) have() {
	p.t.Helper()
	if n := p.s.Given(); n != p.w.given {
		p.t.Fatalf("Given: %d, not %d", n, p.w.given)
	}
	if l := p.s.Lots(); !slices.EqualFunc(l, p.w.lots, same) {
		p.t.Fatalf("Lots: %v, not %v", l, p.w.lots)
	}
	for id := range p.w.given + 3 {
		p.haveLot(id)
	}
	for zone := range 19 {
		if n := p.s.Load(zone); n != p.w.load(zone) {
			p.t.Fatalf("Load(%d): %d, not %d", zone, n, p.w.load(zone))
		}
	}
}

func (p pair) haveLot(id int) {
	p.t.Helper()
	l, e := p.s.Lot(id)
	at := p.w.at(id)
	if at < 0 && (e != api.ErrNone || !same(l, api.Lot{})) || at >= 0 && (e != api.OK || !same(l, p.w.lots[at])) {
		p.t.Fatalf("Lot(%d): %v, error %d", id, l, e)
	}
}

// is wants a lot to be this one, written out.
func (p pair) is(l api.Lot) {
	p.t.Helper()
	if got, e := p.s.Lot(l.ID); e != api.OK || !same(got, l) {
		p.t.Fatalf("Lot(%d): %v, error %d, not %v", l.ID, got, e, l)
	}
}

// Each of these does the same to both, and wants that error, and tells what was told.

func (p pair) receive(want api.Errno, by plan, product, zone, units, expiry, now int) (int, api.Errno) {
	p.t.Helper()
	n, e := p.s.Receive(by.m, product, zone, units, expiry, now)
	m, f := p.w.receive(by, product, zone, units, expiry, now)
	return p.told(fmt.Sprintf("Receive %d %d %d %d %d", product, zone, units, expiry, now), n, e, m, f, want)
}

func (p pair) move(want api.Errno, by plan, id, zone, now int) api.Errno {
	p.t.Helper()
	_, e := p.told(fmt.Sprintf("Move %d %d %d", id, zone, now), 0, p.s.Move(by.m, id, zone, now), 0, p.w.move(by, id, zone, now), want)
	return e
}

func (p pair) split(want api.Errno, id, units int) (int, api.Errno) {
	p.t.Helper()
	n, e := p.s.Split(id, units)
	m, f := p.w.split(id, units)
	return p.told(fmt.Sprintf("Split %d %d", id, units), n, e, m, f, want)
}

func (p pair) merge(want api.Errno, into, from int) api.Errno {
	p.t.Helper()
	_, e := p.told(fmt.Sprintf("Merge %d %d", into, from), 0, p.s.Merge(into, from), 0, p.w.merge(into, from), want)
	return e
}

func (p pair) mark(want api.Errno, id int, st api.Status, order, grant int) api.Errno {
	p.t.Helper()
	_, e := p.told(fmt.Sprintf("Mark %d %d %d %d", id, st, order, grant), 0, p.s.Mark(id, st, order, grant), 0, p.w.mark(id, st, order, grant), want)
	return e
}

func (p pair) leave(want api.Errno, id, now int) api.Errno {
	p.t.Helper()
	_, e := p.told(fmt.Sprintf("Leave %d %d", id, now), 0, p.s.Leave(id, now), 0, p.w.leave(id, now), want)
	return e
}

func (p pair) put(want api.Errno, l api.Lot) api.Errno {
	p.t.Helper()
	_, e := p.told(fmt.Sprintf("Put %v", l), 0, p.s.Put(l), 0, p.w.put(l), want)
	return e
}

func (p pair) give(want api.Errno, id int) api.Errno {
	p.t.Helper()
	_, e := p.told(fmt.Sprintf("Give %d", id), 0, p.s.Give(id), 0, p.w.give(id), want)
	return e
}

// lot is one that may be, in zone 1 from minute 3 on, behind zone 2.
func lot(id int) api.Lot {
	return api.Lot{ID: id, Product: 2, Units: 10, Expiry: 500, Grant: 7, Order: 3, Status: api.Released, Stays: list(stay(2, 0, 3), on(1, 3))}
}

// gone is such a one that is in no zone.
func gone(id int) api.Lot {
	l := lot(id)
	l.Stays = list(stay(2, 0, 3), stay(1, 3, 9))
	return l
}

// with is a lot with something else.
func with(l api.Lot, change func(l *api.Lot)) api.Lot {
	l.Stays = slices.Clone(l.Stays)
	change(&l)
	return l
}

// P12.1, K1: a stock without lots.
func TestWithoutLots(t *testing.T) {
	p := twins(t)
	if p.s == nil {
		t.Fatal("New: nil")
	}
	p.have()
	for _, n := range asked() {
		p.haveLot(n)
		if load := p.s.Load(n); load != 0 {
			t.Errorf("Load(%d): %d", n, load)
		}
	}
}

// P12.1, rule 8: a nil stock, whatever else is wrong.
func TestNilStock(t *testing.T) {
	var s *stock.Stock
	for _, by := range []plan{{}, wide(t)} {
		for _, n := range append(asked(), 1, 2, 256) {
			id, e := s.Receive(by.m, n, 1, 1, 1, 1)
			other, f := s.Split(n, 1)
			l, g := s.Lot(n)
			if id != 0 || other != 0 || !same(l, api.Lot{}) {
				t.Errorf("%d %d %v", id, other, l)
			}
			for i, e := range []api.Errno{e, f, g, s.Move(by.m, n, 1, 1), s.Merge(n, 1), s.Merge(1, n), s.Mark(n, 0, 0, 0), s.Mark(1, 9, n, n), s.Leave(n, 1), s.Put(lot(n)), s.Put(api.Lot{}), s.Give(n)} {
				if e != api.ErrArg {
					t.Errorf("%d of %d: error %d", i, n, e)
				}
			}
			if s.Load(n) != 0 || s.Given() != 0 || len(s.Lots()) != 0 {
				t.Error("a nil stock has something")
			}
		}
	}
}

// P12.1: a nil master, and one without anything, has nothing; the errors ahead of that, and only these, come first.
func TestNilMaster(t *testing.T) {
	for _, by := range []plan{{}, planned(t, nil)} {
		p := having(t, lot(1), gone(2))
		p.receive(api.ErrNone, by, 1, 1, 1, 1, 1)
		p.receive(api.ErrNone, by, 0, 0, most, 0, 0)
		p.receive(api.ErrArg, by, 1, 1, 0, 1, 1)
		p.receive(api.ErrArg, by, 1, 1, 1, -1, 1)
		p.receive(api.ErrArg, by, 1, 1, 1, 1, most)
		p.move(api.ErrNone, by, 1, 1, 5)
		p.move(api.ErrNone, by, 1, 2, 5)
		p.move(api.ErrNone, by, 1, 0, 5)
		p.move(api.ErrNone, by, 2, 2, 9)
		p.move(api.ErrNone, by, 3, 2, 9)
		p.give(api.OK, last)
		p.receive(api.ErrNone, by, 1, 1, 1, 1, 1)
	}
}

// P12.1, K1: lots come, one behind the other, in quarantine, without a grant, or an order.
func TestReceive(t *testing.T) {
	p, by := twins(t), wide(t)
	for i, l := range []api.Lot{
		{ID: 1, Product: 1, Units: 5, Expiry: 700, Stays: list(on(3, 9))},
		{ID: 2, Product: 16, Units: 1, Expiry: 0, Stays: list(on(16, 0))},
		{ID: 3, Product: 1, Units: 5, Expiry: 700, Stays: list(on(3, 9))},
		{ID: 4, Product: 2, Units: 123456, Expiry: 3, Stays: list(on(3, 8))},
	} {
		in := l.Stays[0]
		if id, _ := p.receive(api.OK, by, l.Product, in.Zone, l.Units, l.Expiry, in.From); id != i+1 {
			t.Errorf("lot %d is %d", i+1, id)
		}
		p.is(l)
	}
	if p.s.Load(3) != 123466 || p.s.Load(16) != 1 || p.s.Load(1) != 0 || p.s.Given() != 4 {
		t.Errorf("loads %d and %d, given %d", p.s.Load(3), p.s.Load(16), p.s.Given())
	}
}

// P12.1, K1: each number at its ends.
func TestReceiveEnds(t *testing.T) {
	by := wide(t)
	wrong := func(n, from, to int) api.Errno {
		if n < from || n > to {
			return api.ErrArg
		}
		return api.OK
	}
	for _, n := range append(asked(), 1, 2, 3, 255, 256, 65536, most-2, most-1, most, most+1, most+2) {
		twins(t).receive(wrong(n, 1, most), by, 1, 1, n, 5, 5)
		twins(t).receive(wrong(n, 0, most-1), by, 1, 1, 5, n, 5)
		twins(t).receive(wrong(n, 0, most-1), by, 1, 1, 5, 5, n)
	}
	for n := range 20 {
		of := api.ErrNone
		if n == 1 || n == 2 || n == 16 {
			of = api.OK
		}
		twins(t).receive(of, by, n, 1, 1, 5, 5)
		in := api.ErrNone
		if n >= 1 && n <= 4 || n == 16 {
			in = api.OK
		}
		twins(t).receive(in, by, 1, n, 1, 5, 5)
	}
	for _, n := range asked() {
		twins(t).receive(api.ErrNone, by, n, 1, 1, 5, 5)
		twins(t).receive(api.ErrNone, by, 1, n, 1, 5, 5)
	}
}

// P12.1, K1: where several errors apply, the one that the chapter names first is told.
func TestReceiveOrder(t *testing.T) {
	by := planned(t, map[int]int{1: 10, 2: most}, 1)
	for _, given := range []int{0, 255, last} {
		for _, units := range []int{0, 1, 10, 11, most, most + 1} {
			for _, product := range []int{1, 2} {
				for _, zone := range []int{1, 2, 3} {
					for _, expiry := range []int{-1, 5, most} {
						for _, now := range []int{-1, 5, most} {
							want := api.OK
							switch {
							case units == 0 || units > most || expiry != 5 || now != 5:
								want = api.ErrArg
							case product == 2 || zone == 3:
								want = api.ErrNone
							case given == last || zone == 1 && units > 10:
								want = api.ErrFull
							}
							p := twins(t)
							p.give(api.OK, given)
							p.receive(want, by, product, zone, units, expiry, now)
						}
					}
				}
			}
		}
	}
}

// P12.1, K1: a zone's load with a lot is just its Room, and one more.
func TestReceiveRoom(t *testing.T) {
	by := planned(t, map[int]int{1: 10, 2: 10, 3: most, 4: 0}, 1, 2)
	p := twins(t)
	p.receive(api.ErrFull, by, 1, 1, 11, 5, 5)
	p.receive(api.OK, by, 1, 1, 4, 5, 5)
	p.receive(api.ErrFull, by, 2, 1, 7, 5, 5)
	p.receive(api.OK, by, 2, 1, 6, 5, 5)
	p.receive(api.ErrFull, by, 1, 1, 1, 5, 5)
	p.receive(api.OK, by, 1, 2, 10, 5, 5)
	p.receive(api.OK, by, 1, 3, most, 5, 5)
	p.receive(api.ErrFull, by, 1, 3, 1, 5, 5)
	p.receive(api.ErrFull, by, 1, 4, 1, 5, 5)
	p.leave(api.OK, 2, 9)
	p.receive(api.ErrFull, by, 1, 1, 7, 5, 9)
	p.receive(api.OK, by, 1, 1, 6, 5, 9)
	p.leave(api.OK, 4, 9)
	p.move(api.OK, by, 1, 3, 9)
	p.receive(api.OK, by, 1, 1, 4, 5, 9)
	p.receive(api.ErrFull, by, 1, 1, 1, 5, 9)
}

// P12.1, K1, K2: the 256th lot, and the one behind it; those that are gone are lots that came.
func TestLastLot(t *testing.T) {
	by := wide(t)
	received, split := twins(t), twins(t)
	split.receive(api.OK, by, 1, 1, 1000, 5, 5)
	for i := range last {
		received.receive(api.OK, by, 1, 1+i%4, 1+i, 5, 5)
		if i > 0 {
			if id, _ := split.split(api.OK, 1, 2); id != i+1 {
				t.Fatalf("lot %d is %d", i+1, id)
			}
		}
	}
	for _, p := range []pair{received, split} {
		for range 2 {
			p.receive(api.ErrFull, by, 1, 1, 1, 5, 5)
			p.split(api.ErrFull, last, 1)
			p.split(api.ErrArg, last, 0)
		}
	}
	split.merge(api.OK, 1, 2)
	received.leave(api.OK, 1, 7)
	for _, p := range []pair{received, split} {
		p.receive(api.ErrFull, by, 1, 1, 1, 5, 5)
		p.split(api.ErrFull, last, 1)
		p.put(api.ErrArg, lot(1))
		p.put(api.ErrArg, lot(2))
		p.put(api.ErrArg, lot(257))
		p.give(api.ErrArg, 255)
		p.give(api.OK, last)
	}
}

// P12.1, K1: moves, to another zone, and to that where the lot is, in which nothing happens, whenever it is.
func TestMove(t *testing.T) {
	p, by := twins(t), wide(t)
	p.receive(api.OK, by, 1, 1, 8, 700, 5)
	p.receive(api.OK, by, 1, 1, 9, 700, 5)
	at := func(l ...api.Stay) {
		t.Helper()
		p.is(api.Lot{ID: 1, Product: 1, Units: 8, Expiry: 700, Stays: l})
	}
	p.move(api.OK, by, 1, 3, 9)
	at(stay(1, 5, 9), on(3, 9))
	for _, now := range []int{9, 10, most, math.MaxInt, 8, 0, -1, math.MinInt} {
		p.move(api.OK, by, 1, 3, now)
		at(stay(1, 5, 9), on(3, 9))
	}
	p.move(api.OK, by, 1, 1, 20)
	at(stay(1, 5, 9), stay(3, 9, 20), on(1, 20))
	p.move(api.OK, by, 1, 16, most-1)
	at(stay(1, 5, 9), stay(3, 9, 20), stay(1, 20, most-1), on(16, most-1))
	if p.s.Load(1) != 9 || p.s.Load(3) != 0 || p.s.Load(16) != 8 {
		t.Errorf("loads %d, %d and %d", p.s.Load(1), p.s.Load(3), p.s.Load(16))
	}
	p.is(api.Lot{ID: 2, Product: 1, Units: 9, Expiry: 700, Stays: list(on(1, 5))})
}

// P12.1, K1: a move ahead of the last one, in its minute, and back in that minute.
func TestMoveMinutes(t *testing.T) {
	by := wide(t)
	for _, now := range []int{math.MinInt, -1, 0, 2} {
		p := having(t, lot(1))
		p.move(api.ErrArg, by, 1, 3, now)
		p.move(api.ErrArg, by, 1, 2, now)
	}
	for now, zones := range map[int]map[int][]api.Stay{
		3: {2: list(on(2, 0)), 3: list(stay(2, 0, 3), on(3, 3))},
		4: {2: list(stay(2, 0, 3), stay(1, 3, 4), on(2, 4)), 3: list(stay(2, 0, 3), stay(1, 3, 4), on(3, 4))},
	} {
		for zone, l := range zones {
			p := having(t, lot(1))
			p.move(api.OK, by, 1, zone, now)
			p.is(with(lot(1), func(one *api.Lot) { one.Stays = l }))
		}
	}
	p := having(t, with(lot(1), func(l *api.Lot) { l.Stays = list(on(1, 3)) }))
	p.move(api.OK, by, 1, 2, 3)
	p.is(with(lot(1), func(l *api.Lot) { l.Stays = list(on(2, 3)) }))
	p.move(api.OK, by, 1, 3, math.MaxInt)
	p.is(with(lot(1), func(l *api.Lot) { l.Stays = list(stay(2, 3, math.MaxInt), on(3, math.MaxInt)) }))
}

// P12.1, K1: nothing happens to a lot that is moved into the zone where it is, also if 9 would make one stay of two.
func TestMoveNowhereElse(t *testing.T) {
	by := planned(t, map[int]int{1: 0, 2: 100}, 1)
	l := with(lot(1), func(l *api.Lot) { l.Stays = list(stay(1, 0, 3), on(1, 3)) })
	p := having(t, l)
	for _, now := range []int{-1, 2, 3, 4} {
		p.move(api.OK, by, 1, 1, now) // though it is too full
		p.is(l)
	}
}

// P12.1, K1: the other zone's load with the lot is just its Room, and one more.
func TestMoveRoom(t *testing.T) {
	by := planned(t, map[int]int{1: 100, 2: 15, 3: 14, 4: 10, 5: 9, 6: 0}, 2)
	l := with(lot(2), func(l *api.Lot) { l.Units, l.Stays = 5, list(on(2, 0)) })
	p := having(t, lot(1), l, with(l, func(l *api.Lot) { l.ID, l.Stays = 3, list(on(3, 0)) }))
	p.move(api.ErrFull, by, 1, 3, 9)
	p.move(api.ErrFull, by, 1, 5, 9)
	p.move(api.ErrFull, by, 1, 6, 9)
	p.move(api.OK, by, 1, 2, 9)
	p.move(api.ErrFull, by, 3, 2, 9)
	p.move(api.OK, by, 1, 2, 10)
	p.move(api.OK, by, 1, 4, 10)
	p.move(api.ErrFull, by, 2, 4, 10)
	p.move(api.OK, by, 2, 3, 10)
	p.move(api.OK, by, 3, 5, 10)
	p.leave(api.OK, 1, 11)
	p.move(api.OK, by, 2, 4, 11)
}

// P12.1, K1: where several errors apply to a move, the one that the chapter names first is told.
func TestMoveOrder(t *testing.T) {
	by := planned(t, map[int]int{1: 100, 2: 9, 3: 10}, 2)
	for id, in := range map[int]bool{1: true, 2: false, 3: false} {
		for zone := range 5 {
			for _, now := range []int{2, 3, 8, 9, 10} {
				want := api.OK
				switch {
				case id == 3 || zone == 0 || zone == 4:
					want = api.ErrNone
				case !in:
					want = api.ErrState
				case zone == 2:
					want = api.ErrFull
				case zone == 3 && now == 2:
					want = api.ErrArg
				}
				having(t, lot(1), gone(2)).move(want, by, id, zone, now)
			}
		}
	}
	p := having(t, with(lot(1), func(l *api.Lot) { l.Stays = nil }), with(lot(2), func(l *api.Lot) { l.Stays = list(on(17, 0)) }))
	p.move(api.ErrState, by, 1, 1, 0)
	p.move(api.ErrNone, by, 2, 17, 5)
	p.move(api.OK, by, 2, 1, 5)
	for _, n := range asked() {
		p.move(api.ErrNone, by, n, 1, 5)
		p.move(api.ErrNone, by, 2, n, 5)
	}
}

// P12.1, K2: a split: the new lot is like the other one in all but ID and Units.
func TestSplit(t *testing.T) {
	for units := -1; units < 13; units++ {
		p := having(t, lot(3), with(lot(5), func(l *api.Lot) { l.Units = 99 }))
		if units < 1 || units > 9 {
			p.split(api.ErrArg, 3, units)
			continue
		}
		if id, _ := p.split(api.OK, 3, units); id != 6 {
			t.Fatalf("the new lot is %d", id)
		}
		p.is(with(lot(3), func(l *api.Lot) { l.Units = 10 - units }))
		p.is(with(lot(6), func(l *api.Lot) { l.Units = units }))
		if p.s.Load(1) != 109 {
			t.Errorf("the load is %d", p.s.Load(1))
		}
	}
	p := having(t, with(lot(1), func(l *api.Lot) { l.Units = 1 }), with(lot(2), func(l *api.Lot) { l.Units = 2 }), with(lot(3), func(l *api.Lot) { l.Units = most }))
	for _, n := range append(asked(), 1) {
		p.split(api.ErrArg, 1, n)
	}
	p.split(api.ErrArg, 2, 2)
	p.split(api.OK, 2, 1)
	p.split(api.ErrArg, 3, most)
	p.split(api.OK, 3, most-1)
	p.split(api.ErrArg, 3, 1)
}

// P12.1, K2: where several errors apply to a split, the one that the chapter names first is told.
func TestSplitOrder(t *testing.T) {
	for _, given := range []int{2, last} {
		p := having(t, lot(1), gone(2))
		p.give(api.OK, given)
		for _, n := range append(asked(), 3) {
			p.split(api.ErrNone, n, 1)
			p.split(api.ErrNone, n, 0)
		}
		for _, units := range []int{0, 10, 11} {
			p.split(api.ErrArg, 1, units)
			p.split(api.ErrArg, 2, units)
		}
		p.split(api.ErrState, 2, 1)
		p.split(api.ErrState, 2, 9)
	}
	p := having(t, lot(1), with(lot(2), func(l *api.Lot) { l.Stays = nil }))
	p.split(api.ErrState, 2, 1)
	p.give(api.OK, 255)
	p.split(api.OK, 1, 1)
	p.split(api.ErrFull, 1, 1)
	p.split(api.ErrArg, last, 1)
}

// P12.1, K2: a merge: the one has the units of both, the other one is gone, whichever came first.
func TestMerge(t *testing.T) {
	for _, c := range [][2]int{{1, 3}, {3, 1}} {
		p := having(t, lot(1), lot(2), with(lot(3), func(l *api.Lot) { l.Units = 7 }))
		p.merge(api.OK, c[0], c[1])
		p.is(with(lot(c[0]), func(l *api.Lot) { l.Units = 17 }))
		p.is(lot(2))
		if p.s.Load(1) != 27 || len(p.s.Lots()) != 2 || p.s.Given() != 3 {
			t.Errorf("load %d, lots %v, given %d", p.s.Load(1), p.s.Lots(), p.s.Given())
		}
		p.wantGone(c[1])
		p.merge(api.OK, c[0], 2)
		p.is(with(lot(c[0]), func(l *api.Lot) { l.Units = 27 }))
		p.wantGone(2)
	}
}

// wantGone wants a lot to be gone: nothing can be done with it any more, nor one come in its place.
func (p pair) wantGone(id int) {
	p.t.Helper()
	by := wide(p.t)
	if l, e := p.s.Lot(id); e != api.ErrNone || !same(l, api.Lot{}) {
		p.t.Fatalf("Lot(%d): %v, error %d", id, l, e)
	}
	p.move(api.ErrNone, by, id, 2, 50)
	p.split(api.ErrNone, id, 1)
	for _, l := range p.s.Lots() {
		p.merge(api.ErrNone, l.ID, id)
		p.merge(api.ErrNone, id, l.ID)
	}
	p.merge(api.ErrNone, id, id)
	p.mark(api.ErrNone, id, api.Held, 1, 1)
	p.leave(api.ErrNone, id, 50)
	p.put(api.ErrArg, lot(id))
}

// P12.1, K2: lots whose units are more than 2^20 together are merged, too; what they have then can't come as it is.
func TestMergeGreat(t *testing.T) {
	great := func(id int) api.Lot { return with(lot(id), func(l *api.Lot) { l.Units = most }) }
	var l []api.Lot
	for id := range last {
		l = append(l, great(id+1))
	}
	p := having(t, l...)
	for id := 2; id <= last; id++ {
		p.merge(api.OK, 1, id)
	}
	p.is(with(lot(1), func(l *api.Lot) { l.Units = last * most }))
	if p.s.Load(1) != 1<<28 {
		t.Errorf("the load is %d", p.s.Load(1))
	}
	merged, _ := p.s.Lot(1)
	having(t).put(api.ErrArg, merged)
	p = having(t, great(1), great(2), great(3))
	p.merge(api.OK, 2, 3)
	p.split(api.ErrArg, 2, 2*most)
	p.split(api.OK, 2, 2*most-1)
	p.receive(api.ErrFull, wide(t), 1, 1, 1, 5, 5)
	p.move(api.ErrFull, wide(t), 4, 3, 9)
}

// P12.1, K2: lots that differ in one thing are not alike.
func TestMergeUnlike(t *testing.T) {
	for i, change := range []func(l *api.Lot){
		func(l *api.Lot) { l.Product = 1 },
		func(l *api.Lot) { l.Expiry = 501 },
		func(l *api.Lot) { l.Grant = 0 },
		func(l *api.Lot) { l.Order = 0 },
		func(l *api.Lot) { l.Status = api.Quarantine },
		func(l *api.Lot) { l.Status = api.Held },
		func(l *api.Lot) { l.Stays[0].Zone = 3 },
		func(l *api.Lot) { l.Stays[0].From = 1 },
		func(l *api.Lot) { l.Stays[1].Zone = 3 },
		func(l *api.Lot) { l.Stays[0].To, l.Stays[1].From = 2, 2 },
		func(l *api.Lot) { l.Stays[1].To = 9 },
		func(l *api.Lot) { l.Stays = l.Stays[1:] },
		func(l *api.Lot) { l.Stays = l.Stays[:1] },
		func(l *api.Lot) { l.Stays = nil },
		func(l *api.Lot) { l.Stays = list(stay(2, 0, 3), stay(1, 3, 9), on(1, 9)) },
	} {
		other := with(lot(2), change)
		p := having(t, lot(1), other)
		p.merge(api.ErrUnlike, 1, 2)
		if n := len(other.Stays); n > 0 && other.Stays[n-1].To == -1 {
			p.merge(api.ErrUnlike, 2, 1)
		} else {
			p.merge(api.ErrState, 2, 1)
		}
		p.merge(api.ErrArg, 2, 2)
		if len(p.s.Lots()) != 2 {
			t.Errorf("%d: %v", i, p.s.Lots())
		}
	}
	for _, units := range []int{1, 9, most} {
		p := having(t, lot(1), with(lot(2), func(l *api.Lot) { l.Units = units }))
		p.merge(api.OK, 1, 2)
	}
}

// P12.1, K2: where several errors apply to a merge, the one that the chapter names first is told.
func TestMergeOrder(t *testing.T) {
	p := having(t, lot(1), gone(2), gone(3), with(gone(4), func(l *api.Lot) { l.Product = 1 }))
	for _, n := range append(asked(), 5) {
		for id := range 5 {
			p.merge(api.ErrNone, n, id)
			p.merge(api.ErrNone, id, n)
		}
		p.merge(api.ErrNone, n, n)
	}
	p.merge(api.ErrArg, 1, 1)
	p.merge(api.ErrArg, 2, 2)
	p.merge(api.ErrState, 2, 3)
	p.merge(api.ErrState, 2, 4)
	p.merge(api.ErrState, 2, 1)
	p.merge(api.ErrUnlike, 1, 2)
}

// P12.1, K3: marks, of all that may be, also of lots in no zone, and of numbers that may not be.
func TestMark(t *testing.T) {
	p := having(t, lot(1), gone(2), lot(3))
	for _, id := range []int{1, 2} {
		for st := api.Status(-1); st <= 5; st++ {
			for _, order := range []int{math.MinInt, -1, 0, 1, 64, 65, math.MaxInt} {
				for _, grant := range []int{math.MinInt, -1, 0, 1, 1 << 62, math.MaxInt} {
					if st < 0 || st > 4 || order < 0 || grant < 0 {
						p.mark(api.ErrArg, id, st, order, grant)
						continue
					}
					p.mark(api.OK, id, st, order, grant)
					want := lot(id)
					if id == 2 {
						want = gone(2)
					}
					p.is(with(want, func(l *api.Lot) { l.Status, l.Order, l.Grant = st, order, grant }))
				}
			}
		}
	}
	p.is(lot(3))
	for _, n := range asked() {
		p.mark(api.ErrNone, n, api.Held, 1, 1)
		p.mark(api.ErrNone, n, -1, -1, -1)
		if n != 0 {
			p.mark(api.ErrArg, 1, api.Status(n), 1, 1)
		}
	}
	p.mark(api.ErrNone, 4, api.Held, 1, 1)
}

// P12.1, K3: leaving, once, and 9's errors.
func TestLeave(t *testing.T) {
	for _, now := range []int{math.MinInt, -1, 0, 2} {
		having(t, lot(1)).leave(api.ErrArg, 1, now)
	}
	for _, now := range []int{3, 4, most, math.MaxInt} {
		p := having(t, lot(1), lot(2))
		p.leave(api.OK, 1, now)
		want := list(stay(2, 0, 3))
		if now > 3 {
			want = append(want, stay(1, 3, now))
		}
		p.is(with(lot(1), func(l *api.Lot) { l.Stays = want }))
		p.is(lot(2))
		if p.s.Load(1) != 10 {
			t.Errorf("the load is %d", p.s.Load(1))
		}
		for _, again := range []int{now, 0, 3, math.MaxInt} {
			p.leave(api.ErrArg, 1, again)
		}
		p.move(api.ErrState, wide(t), 1, 2, now)
	}
	p := having(t, gone(1), with(lot(2), func(l *api.Lot) { l.Stays = nil }))
	p.leave(api.ErrArg, 1, 9)
	p.leave(api.ErrArg, 1, 10)
	p.leave(api.ErrArg, 2, 0)
	for _, n := range append(asked(), 3) {
		p.leave(api.ErrNone, n, 9)
		p.leave(api.ErrNone, n, -1)
	}
	p = twins(t)
	p.receive(api.OK, wide(t), 1, 1, 5, 5, 7)
	p.leave(api.OK, 1, 7)
	p.is(api.Lot{ID: 1, Product: 1, Units: 5, Expiry: 5})
}

// P12.1, K3: IDs of lots that come as they are: above all that were given, up to 256; those between are given then.
func TestPutIDs(t *testing.T) {
	p := twins(t)
	for _, n := range asked() {
		p.put(api.ErrArg, lot(n))
	}
	p.put(api.OK, lot(4))
	for id := -1; id < 5; id++ {
		p.put(api.ErrArg, lot(id))
	}
	if id, _ := p.receive(api.OK, wide(t), 1, 2, 1, 5, 5); id != 5 {
		t.Errorf("received as %d", id)
	}
	p.put(api.ErrArg, lot(5))
	p.put(api.OK, lot(6))
	if id, _ := p.split(api.OK, 6, 4); id != 7 {
		t.Errorf("split as %d", id)
	}
	p.merge(api.OK, 6, 7)
	p.put(api.ErrArg, lot(7))
	p.put(api.OK, lot(255))
	p.put(api.ErrArg, lot(257))
	p.put(api.OK, lot(last))
	p.put(api.ErrArg, lot(last))
	p.put(api.ErrArg, lot(257))
	p.receive(api.ErrFull, wide(t), 1, 2, 1, 5, 5)
	p.split(api.ErrFull, last, 1)
	if p.s.Given() != last || len(p.s.Lots()) != 5 {
		t.Errorf("given %d, %v", p.s.Given(), p.s.Lots())
	}
}

// P12.1, K3: each number of a lot that comes as it is, at its ends.
func TestPutNumbers(t *testing.T) {
	for name, c := range map[string]struct {
		of       func(l *api.Lot) *int
		from, to int
	}{
		"Product": {func(l *api.Lot) *int { return &l.Product }, 0, math.MaxInt},
		"Units":   {func(l *api.Lot) *int { return &l.Units }, 1, most},
		"Expiry":  {func(l *api.Lot) *int { return &l.Expiry }, 0, math.MaxInt},
		"Grant":   {func(l *api.Lot) *int { return &l.Grant }, 0, math.MaxInt},
		"Order":   {func(l *api.Lot) *int { return &l.Order }, 0, math.MaxInt},
	} {
		t.Run(name, func(t *testing.T) {
			for _, n := range append(asked(), 1, 2, 5, 16, 17, 64, 65, most-1, most, most+1, 1<<62, 1<<62+1) {
				want := api.OK
				if n < c.from || n > c.to {
					want = api.ErrArg
				}
				having(t, lot(1)).put(want, with(lot(2), func(l *api.Lot) { *c.of(l) = n }))
			}
		})
	}
	for _, n := range append(asked(), 1, 2, 3, 4, 5, 6) {
		want := api.OK
		if n < 0 || n > 4 {
			want = api.ErrArg
		}
		having(t, lot(1)).put(want, with(lot(2), func(l *api.Lot) { l.Status = api.Status(n) }))
	}
	having(t, api.Lot{ID: 1, Units: 1})
	twins(t).put(api.ErrArg, api.Lot{})
	twins(t).put(api.ErrArg, api.Lot{Units: 1})
}

// P12.1, K3: stays of a lot that comes as it is: any that may be, whatever a master has, and none that may not be.
func TestPutStays(t *testing.T) {
	for _, l := range [][]api.Stay{nil, {}, {on(1, 0)}, {on(3, most)}, {on(17, 5)}, {on(math.MaxInt, math.MaxInt)}, {stay(1, 0, 1)}, {stay(1, 2, 5), on(1, 5)}, {stay(1, 2, 5), stay(2, 5, math.MaxInt)}} {
		p := having(t, lot(1))
		p.put(api.OK, with(lot(2), func(one *api.Lot) { one.Stays = l }))
		p.is(with(lot(2), func(one *api.Lot) { one.Stays = l }))
	}
	for _, l := range [][]api.Stay{{on(0, 5)}, {on(-1, 5)}, {on(1, -1)}, {stay(1, 5, 5)}, {stay(1, 5, 4)}, {stay(1, 0, -2)}, {on(1, 0), on(2, 5)}, {on(1, 0), stay(2, 5, 6)}, {stay(1, 0, 5), on(2, 6)}, {stay(1, 0, 5), on(2, 4)}, {stay(1, 0, 5), on(0, 5)}, {stay(1, 0, 5), on(2, 5), on(3, 6)}} {
		having(t, lot(1)).put(api.ErrArg, with(lot(2), func(one *api.Lot) { one.Stays = l }))
	}
	p := having(t, with(lot(1), func(l *api.Lot) { l.Stays = list(on(math.MaxInt, 5)) }))
	if p.s.Load(math.MaxInt) != 10 {
		t.Errorf("the load is %d", p.s.Load(math.MaxInt))
	}
}

// P12.1, K3: Put asks no master: a zone may be too full then; nothing more comes there, and what is there may go.
func TestPutFull(t *testing.T) {
	by := planned(t, map[int]int{1: 15, 2: 100}, 2)
	p := having(t, lot(1), lot(2))
	if p.s.Load(1) != 20 {
		t.Errorf("the load is %d", p.s.Load(1))
	}
	p.receive(api.ErrFull, by, 2, 1, 1, 5, 5)
	p.split(api.OK, 1, 4)
	p.move(api.OK, by, 1, 2, 9)
	p.receive(api.ErrFull, by, 2, 1, 2, 5, 9)
	p.receive(api.OK, by, 2, 1, 1, 5, 9)
}

// P12.1, K3: IDs that are given: at least those that were, at most 256.
func TestGive(t *testing.T) {
	p := twins(t)
	for _, n := range asked() {
		if n != 0 {
			p.give(api.ErrArg, n)
		}
	}
	p.give(api.OK, 0)
	p.give(api.OK, 3)
	p.give(api.OK, 3)
	for id := -1; id < 3; id++ {
		p.give(api.ErrArg, id)
		p.put(api.ErrArg, lot(id))
	}
	p.put(api.ErrArg, lot(3))
	if id, _ := p.receive(api.OK, wide(t), 1, 1, 2, 5, 5); id != 4 {
		t.Errorf("received as %d", id)
	}
	p.give(api.ErrArg, 3)
	p.give(api.OK, 9)
	if id, _ := p.split(api.OK, 4, 1); id != 10 {
		t.Errorf("split as %d", id)
	}
	p.give(api.OK, 255)
	p.give(api.ErrArg, 257)
	p.give(api.OK, last)
	p.give(api.OK, last)
	p.give(api.ErrArg, 255)
	p.give(api.ErrArg, 257)
	p.receive(api.ErrFull, wide(t), 1, 1, 2, 5, 5)
	p.put(api.ErrArg, lot(last))
	p.put(api.ErrArg, lot(257))
	if len(p.s.Lots()) != 2 {
		t.Errorf("lots %v", p.s.Lots())
	}
}

// dice tell numbers that look like any, the same in each run.
type dice uint64

func (d *dice) below(n int) int {
	*d = *d*6364136223846793005 + 1442695040888963407
	x := uint64(*d^*d>>31) * 0x9e3779b97f4a7c15
	return int((x >> 1) % uint64(n))
}

// one of some numbers.
func (d *dice) one(l ...int) int { return l[d.below(len(l))] }

// act does any one thing to a stock, and to the one by the words, and tells what it was, and its error.
func (p pair) act(d *dice, by plan, now int) (what string, e api.Errno) {
	p.t.Helper()
	id, other := d.below(p.w.given+2), d.below(p.w.given+2)
	zone, when := d.below(6), now+d.one(0, 0, 0, 0, -1, -5, 1)
	switch d.below(33) {
	case 0, 1, 2, 3, 4, 5:
		_, e = p.receive(byWords, by, d.one(1, 1, 2, 2, 16, 3), zone, d.one(1, 2, 5, 9, 30, 0, 100), d.one(5, 5, 900, -1), when)
		return "receive", e
	case 6, 7, 8, 9, 10, 11, 12, 13:
		return "move", p.move(byWords, by, id, zone, when)
	case 14, 15, 16, 17, 18, 19:
		_, e = p.split(byWords, id, d.one(1, 1, 2, 3, 0, 20))
		return "split", e
	case 20, 21, 22, 23, 24, 25, 26, 27:
		return "merge", p.merge(byWords, id, other)
	case 28, 29, 30, 31:
		return "mark", p.mark(byWords, id, api.Status(d.one(0, 0, 0, 1, 2, 3, 4, -1, 5)), d.one(0, 0, 1, -1), d.one(0, 0, 1, -1))
	default:
		return "leave", p.leave(byWords, id, when)
	}
}

// P12.1, P12.2: behind each step of many series, with errors between: all is as it is by the words, of each product there are as many units as came, and no zone's load is more than its Room.
func TestNothingIsLost(t *testing.T) {
	counts := map[string]int{}
	for number := range 150 {
		d := dice(number)
		by := planned(t, map[int]int{1: 20 + d.below(100), 2: 200, 3: d.below(30), 4: most}, 1, 2, 16)
		p, now := twins(t), 0
		came := map[int]int{}
		for range 120 {
			given := p.s.Given()
			what, e := p.act(&d, by, now)
			counts[fmt.Sprint(what, e)]++
			if what == "receive" && e == api.OK {
				l, _ := p.s.Lot(given + 1)
				came[l.Product] += l.Units
			}
			p.wantUnits(came)
			for zone, room := range by.rooms {
				if load := p.s.Load(zone); load > room {
					t.Fatalf("zone %d has %d units, and room for %d", zone, load, room)
				}
			}
			now += d.one(0, 0, 1, 3)
		}
	}
	for _, key := range []string{"receive0", "receive1", "receive4", "receive5", "move0", "move1", "move4", "move5", "move8", "split0", "split1", "split5", "split8", "merge0", "merge1", "merge5", "merge12", "mark0", "mark1", "mark5", "leave0", "leave1", "leave5"} {
		if counts[key] < 20 {
			t.Errorf("%s came just %d times", key, counts[key])
		}
	}
}

// wantUnits wants of each product as many units as came.
func (p pair) wantUnits(came map[int]int) {
	p.t.Helper()
	there := map[int]int{}
	for _, l := range p.s.Lots() {
		if l.Units < 1 {
			p.t.Fatalf("a lot without units: %v", l)
		}
		there[l.Product] += l.Units
	}
	if fmt.Sprint(there) != fmt.Sprint(came) {
		p.t.Fatalf("units by product: %v, and %v came", there, came)
	}
}

// P12.2: units that came as they are, some of them in no zone, are not lost either.
func TestNothingThatWasPutIsLost(t *testing.T) {
	for number := range 60 {
		d := dice(1000 + number)
		by := planned(t, map[int]int{1: 60, 2: 200, 3: 30, 4: most}, 1, 2, 16)
		p, now := twins(t), 9
		came := map[int]int{}
		for range 80 {
			given := p.s.Given()
			if d.below(5) == 0 {
				l := with(lot(given+1+d.below(2)), func(l *api.Lot) {
					l.Product, l.Units = d.one(0, 1, 2, 5), d.one(1, 10, 100, most)
					l.Stays = [][]api.Stay{nil, {on(1, 3)}, {stay(1, 2, 3)}, {stay(1, 2, 3), on(4, 3)}}[d.below(4)]
				})
				p.put(api.OK, l)
				came[l.Product] += l.Units
			} else if what, e := p.act(&d, by, now); what == "receive" && e == api.OK {
				l, _ := p.s.Lot(given + 1)
				came[l.Product] += l.Units
			}
			p.wantUnits(came)
			now += d.below(3)
		}
	}
}

// P12.2: a lot that is split, and merged again, is what it was, wherever it was, in any number of parts, and nothing else changed.
func TestSplitAndMerged(t *testing.T) {
	for _, units := range []int{2, 3, 10, most} {
		for _, l := range [][]api.Stay{{on(1, 0)}, {stay(2, 0, 3), on(1, 3)}, {stay(1, 0, 3), on(1, 3)}} {
			for _, part := range []int{1, 2, units / 2, units - 2, units - 1} {
				if part < 1 || part > units-1 {
					continue
				}
				was := with(lot(2), func(one *api.Lot) { one.Units, one.Stays = units, l })
				p := having(t, lot(1), was, lot(3))
				all := p.s.Lots()
				id, _ := p.split(api.OK, 2, part)
				p.merge(api.OK, 2, id)
				p.is(was)
				if !slices.EqualFunc(p.s.Lots(), all, same) {
					t.Fatalf("the lots became %v", p.s.Lots())
				}
				id, _ = p.split(api.OK, 2, part)
				p.merge(api.OK, id, 2) // the other way round it has the new one's ID
				p.is(with(was, func(one *api.Lot) { one.ID = id }))
			}
		}
	}
	p := having(t, lot(1))
	for range 9 {
		p.split(api.OK, 1, 1)
	}
	for id := 3; id <= 10; id++ {
		p.merge(api.OK, 2, id)
	}
	p.merge(api.OK, 1, 2)
	p.is(lot(1))
}

// P12.2: what is split off goes with the lot: moved alike both are alike still, else not, and what is done to one isn't done to the other one.
func TestSplitAndMoved(t *testing.T) {
	by := wide(t)
	p := having(t, lot(1))
	p.split(api.OK, 1, 4)
	p.move(api.OK, by, 1, 3, 9)
	p.is(with(lot(2), func(l *api.Lot) { l.Units = 4 }))
	p.merge(api.ErrUnlike, 1, 2)
	p.move(api.OK, by, 2, 3, 9)
	p.mark(api.OK, 2, api.Held, 0, 7)
	p.merge(api.ErrUnlike, 2, 1)
	p.mark(api.OK, 2, api.Released, 3, 7)
	p.merge(api.OK, 2, 1)
	p.is(with(lot(2), func(l *api.Lot) { l.Stays = list(stay(2, 0, 3), stay(1, 3, 9), on(3, 9)) }))
	p.split(api.OK, 2, 1)
	p.leave(api.OK, 2, 20)
	p.is(with(lot(3), func(l *api.Lot) { l.Units, l.Stays = 1, list(stay(2, 0, 3), stay(1, 3, 9), on(3, 9)) }))
}

// spoil writes into all memory of stays.
func spoil(l []api.Stay) {
	_ = append(l, on(7, 7))
	l = l[:cap(l)]
	for i := range l {
		l[i] = stay(-9, -9, -9)
	}
}

// Rule 4: stays that are handed in are not written into, what lies behind them isn't looked at, and spoilt afterwards, at once or later, they change nothing.
func TestNothingIsKept(t *testing.T) {
	by := wide(t)
	for _, beyond := range []api.Stay{{}, on(3, 50), stay(1, 3, 9), stay(-1, -1, -1)} {
		p := twins(t)
		steps := []func(){
			func() {},
			func() { p.split(api.OK, 1, 4) },
			func() { p.mark(api.OK, 1, api.Held, 1, 1) },
			func() { p.move(api.OK, by, 1, 3, 7) },
			func() { p.leave(api.OK, 1, 8) },
		}
		for i := range steps {
			memory := append(lot(1).Stays, beyond, beyond)
			was := slices.Clone(memory)
			p = twins(t)
			if e := p.s.Put(with(lot(1), func(l *api.Lot) { l.Stays = memory[:2] })); e != api.OK {
				t.Fatalf("Put: error %d", e)
			}
			p.w.put(lot(1))
			p.have()
			for _, step := range steps[:i+1] {
				step()
			}
			if !slices.Equal(memory, was) {
				t.Fatalf("%v became %v", was, memory)
			}
			spoil(memory[:0])
			p.have()
			for _, step := range steps[i+1:] {
				step()
			}
		}
	}
}

// Rule 4: stays that are answered, spoilt, change neither the stock nor another answer, nor another lot of that one; and a later step changes no answer.
func TestAnswersAreNew(t *testing.T) {
	by := wide(t)
	p := having(t, lot(1), lot(2))
	p.receive(api.OK, by, 1, 1, 5, 5, 5)
	p.split(api.OK, 1, 4)
	p.split(api.OK, 1, 1)
	p.move(api.OK, by, 2, 3, 8)
	steps := []func(){
		func() { p.move(api.OK, by, 1, 2, 9) },
		func() { p.move(api.OK, by, 1, 1, 9) },
		func() { p.merge(api.OK, 4, 5) },
		func() { p.leave(api.OK, 4, 20) },
		func() { p.leave(api.OK, 3, 5) },
		func() { p.mark(api.OK, 2, api.Held, 0, 0) },
		func() { p.split(api.OK, 1, 1) },
	}
	for _, step := range append(steps, func() {}) {
		first, want := p.s.Lots(), p.s.Lots()
		for i, l := range p.s.Lots() {
			one, _ := p.s.Lot(l.ID)
			spoil(one.Stays)
			spoil(l.Stays)
			all := p.s.Lots()
			spoil(all[i].Stays)
			all[i] = api.Lot{}
			for j := range all {
				if j != i && !same(all[j], want[j]) {
					t.Fatalf("lot %d shares memory with lot %d", want[j].ID, l.ID)
				}
			}
			p.have()
		}
		step()
		if !slices.EqualFunc(first, want, same) {
			t.Fatalf("an answer became %v", first)
		}
	}
}

// A master is used, and not kept: another one may say otherwise, and what it has later counts then.
func TestMasters(t *testing.T) {
	m := master.New()
	small := planned(t, map[int]int{1: 5}, 1)
	p := twins(t)
	grows := plan{m: m}
	p.receive(api.ErrNone, grows, 1, 1, 6, 5, 5)
	grows = plan{m: m, rooms: map[int]int{1: 10}, products: []int{1}}
	if m.AddZone(api.Zone{ID: 1, Room: 10}) != api.OK || m.AddProduct(api.Product{ID: 1}) != api.OK {
		t.Fatal("no master")
	}
	p.receive(api.OK, grows, 1, 1, 6, 5, 5)
	p.receive(api.ErrFull, small, 1, 1, 1, 5, 5)
	p.receive(api.OK, grows, 1, 1, 4, 5, 5)
	p.receive(api.ErrFull, grows, 1, 1, 1, 5, 5)
	p.receive(api.OK, wide(t), 1, 1, 1, 5, 5)
	if len(m.Zones()) != 1 || len(m.Products()) != 1 || m.Zones()[0] != (api.Zone{ID: 1, Room: 10}) {
		t.Error("the master changed")
	}
}

// Two stocks have nothing of one another.
func TestApart(t *testing.T) {
	a, b := having(t, lot(1)), having(t, lot(3))
	a.split(api.OK, 1, 2)
	b.merge(api.ErrNone, 3, 1)
	b.leave(api.OK, 3, 9)
	a.have()
	b.have()
	twins(t).have()
}

// P12.1: what was asked between makes no difference.
func TestAskedBetween(t *testing.T) {
	for number := range 10 {
		quiet, loud := twins(t), twins(t)
		d, by := dice(number), wide(t)
		for range 60 {
			product, zone, units, id := d.one(1, 2), d.one(1, 2, 3), 1+d.below(9), d.below(20)
			now, kind := d.below(50), d.below(5)
			for range 3 {
				loud.have()
			}
			for _, s := range []*stock.Stock{quiet.s, loud.s} {
				switch kind {
				case 0, 1:
					s.Receive(by.m, product, zone, units, 5, 0)
				case 2:
					s.Move(by.m, id, zone, now)
				case 3:
					s.Split(id, units)
				case 4:
					s.Merge(id, id+1)
				}
			}
			loud.w = &words{lots: quiet.s.Lots(), given: quiet.s.Given()}
			loud.have()
		}
	}
}

// P1, P2: each call ends, at whatever it is given, and answers the same again.
func TestAgain(t *testing.T) {
	edges := append(asked(), 1, 2, 3, 4, 5, 10, 255, 256, most-1, most, most+1, 1<<62, 1<<62+1)
	by := wide(t)
	ask := func() (told []string) {
		s := stock.New()
		for _, e := range []api.Errno{s.Put(lot(1)), s.Put(gone(2)), s.Put(lot(4))} {
			told = append(told, fmt.Sprint(e))
		}
		for _, a := range edges {
			for _, b := range edges {
				received, e := s.Receive(by.m, 1, 1, a, b, 5)
				later, f := s.Receive(by.m, a, b, 1, 5, 5)
				split, g := s.Split(a, b)
				told = append(told, fmt.Sprint(received, e, later, f, split, g, s.Move(by.m, a, 2, b), s.Move(by.m, 4, a, b), s.Merge(a, b), s.Mark(a, api.Status(b), 1, 1), s.Mark(4, 1, a, b), s.Leave(a, b), s.Put(api.Lot{ID: a, Units: b, Stays: list(stay(b, a, b))}), s.Give(a-b)))
			}
			l, e := s.Lot(a)
			told = append(told, fmt.Sprint(l, e, s.Load(a), s.Given(), s.Lots()))
		}
		return told
	}
	first := ask()
	for range 3 {
		if !slices.Equal(ask(), first) {
			t.Fatal("asked again, another answer")
		}
	}
}
