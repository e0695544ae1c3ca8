package house_test

import (
	"cmp"
	"maps"
	"slices"

	"hoarfrost/api"
	"hoarfrost/frame"
	"hoarfrost/house"
)

// What the words name: the first minute that there is not, and the greatest number of units; the greatest lot's ID; how many orders there are at most; the most.
const (
	end      = 1 << 20
	lastLot  = 256
	lastWant = 64
	most     = 1 << 62
)

// The states of an order.
const (
	open = iota
	allocated
	shipped
)

// words is a house by the words: all that came stands as it came, as often as it came, and all that is told of it is reckoned anew each time, minute by minute.
type words struct {
	now, given int
	zones      map[int]api.Zone
	products   map[int]api.Product
	air        map[int][]api.Reading
	doors      map[int][]api.Mark
	lots       map[int]api.Lot
	orders     []api.Order
	certs      []api.Cert
}

func newWords() *words {
	return &words{zones: map[int]api.Zone{}, products: map[int]api.Product{}, air: map[int][]api.Reading{}, doors: map[int][]api.Mark{}, lots: map[int]api.Lot{}}
}

// wordsOf has what a state has, which there can be.
func wordsOf(s house.State) *words {
	s = apart(s)
	w := newWords()
	w.now, w.given, w.orders, w.certs = s.Now, s.Given, s.Orders, s.Certs
	for at, z := range s.Zones {
		w.zones[z.ID], w.air[z.ID], w.doors[z.ID] = z, s.Readings[at], s.Marks[at]
	}
	for _, p := range s.Products {
		w.products[p.ID] = p
	}
	for _, l := range s.Lots {
		w.lots[l.ID] = l
	}
	return w
}

// each are lists of their own.
func each[T any](lists [][]T) (l [][]T) {
	for _, one := range lists {
		l = append(l, slices.Clone(one))
	}
	return l
}

// apart is a state with lists of its own.
func apart(s house.State) house.State {
	s.Zones, s.Products, s.Orders, s.Certs = slices.Clone(s.Zones), slices.Clone(s.Products), slices.Clone(s.Orders), slices.Clone(s.Certs)
	s.Readings, s.Marks, s.Lots = each(s.Readings), each(s.Marks), slices.Clone(s.Lots)
	for at := range s.Lots {
		s.Lots[at].Stays = slices.Clone(s.Lots[at].Stays)
	}
	return s
}

// clone is another one, with the same. (Stays are never written into.)
func (w *words) clone() *words {
	other := *w
	other.zones, other.products, other.lots = maps.Clone(w.zones), maps.Clone(w.products), maps.Clone(w.lots)
	other.air, other.doors = map[int][]api.Reading{}, map[int][]api.Mark{}
	for id := range w.zones {
		other.air[id], other.doors[id] = slices.Clone(w.air[id]), slices.Clone(w.doors[id])
	}
	other.orders, other.certs = slices.Clone(w.orders), slices.Clone(w.certs)
	return &other
}

// sorted are the things of a map, by their IDs, rising.
func sorted[T any](m map[int]T) (l []T) {
	for _, id := range slices.Sorted(maps.Keys(m)) {
		l = append(l, m[id])
	}
	return l
}

// state is what it has.
func (w *words) state() house.State {
	s := house.State{Now: w.now, Given: w.given, Zones: sorted(w.zones), Products: sorted(w.products), Lots: sorted(w.lots), Orders: w.orders, Certs: w.certs}
	for _, z := range s.Zones {
		s.Readings = append(s.Readings, warmest(w.air[z.ID]))
		s.Marks = append(s.Marks, openest(w.doors[z.ID]))
	}
	return apart(s)
}

// warmest are readings, by Minute, and Seq, of those that are alike in these the one with the greatest Tenths.
func warmest(l []api.Reading) (kept []api.Reading) {
	l = slices.Clone(l)
	slices.SortFunc(l, func(a, b api.Reading) int {
		return cmp.Or(a.Minute-b.Minute, a.Seq-b.Seq, b.Tenths-a.Tenths)
	})
	for _, r := range l {
		if n := len(kept); n == 0 || kept[n-1].Minute != r.Minute || kept[n-1].Seq != r.Seq {
			kept = append(kept, r)
		}
	}
	return kept
}

// openest are marks, by Minute, and Seq, of those that are alike in these an open one, if there is any.
func openest(l []api.Mark) (kept []api.Mark) {
	l = slices.Clone(l)
	slices.SortStableFunc(l, func(a, b api.Mark) int { return cmp.Or(a.Minute-b.Minute, a.Seq-b.Seq) })
	for _, m := range l {
		if n := len(kept); n == 0 || kept[n-1].Minute != m.Minute || kept[n-1].Seq != m.Seq {
			kept = append(kept, m)
		} else if m.Open {
			kept[n-1].Open = true
		}
	}
	return kept
}

// airAt is a zone's air of a minute.
func (w *words) airAt(zone, minute int) int {
	z, last := w.zones[zone], api.Reading{Minute: -1}
	for _, r := range w.air[zone] {
		if r.Minute <= minute && cmp.Or(r.Minute-last.Minute, r.Seq-last.Seq, r.Tenths-last.Tenths) > 0 {
			last = r
		}
	}
	if last.Minute < 0 || minute-last.Minute > z.Gap {
		return z.Worst
	}
	return last.Tenths
}

// openAt tells whether a zone's door is open at a minute.
func (w *words) openAt(zone, minute int) bool {
	last := api.Mark{Minute: -1}
	for _, m := range w.doors[zone] {
		behind := cmp.Or(m.Minute-last.Minute, m.Seq-last.Seq)
		if m.Minute <= minute && (behind > 0 || behind == 0 && m.Open) {
			last = m
		}
	}
	return last.Open
}

// upto is a lot's exposure up to a minute.
func (w *words) upto(l api.Lot, minute int) (sum int) {
	limit := w.products[l.Product].Limit
	for _, s := range l.Stays {
		for m := s.From; m < minute && (m < s.To || s.To == -1); m++ {
			sum += max(0, w.airAt(s.Zone, m)-limit)
		}
	}
	return sum
}

func (w *words) exposure(id int) (int, api.Errno) {
	l, there := w.lots[id]
	if !there {
		return 0, api.ErrNone
	}
	return w.upto(l, w.now), api.OK
}

func (w *words) allowance(l api.Lot) int {
	return plus(w.products[l.Product].Budget, l.Grant)
}

// plus is two numbers, none of which is below 0, added, up to the most.
func plus(a, b int) int {
	if a > most-min(b, most) {
		return most
	}
	return a + b
}

func (w *words) isOver(l api.Lot) bool { return w.upto(l, w.now) > w.allowance(l) }

func (w *words) recall() (ids []int) {
	for _, c := range w.certs {
		if w.upto(w.lots[c.Lot], c.Minute) > c.Allowance {
			ids = append(ids, c.ID)
		}
	}
	return ids
}

func (w *words) alarms(zone int) (runs []api.Run, e api.Errno) {
	z, there := w.zones[zone]
	if !there {
		return nil, api.ErrNone
	}
	for m := 0; m < w.now; m++ {
		from := m
		for m < w.now && w.openAt(zone, m) {
			m++
		}
		if m-from > z.Ajar {
			runs = append(runs, api.Run{From: from, To: m})
		}
	}
	return runs, api.OK
}

// counts are how many numbers each kind has.
var counts = []int{0, 1, 5, 3, 4, 2, 2, 2, 1, 1, 2, 1, 2, 1, 1, 1}

func mayBe(c api.Command) bool {
	if c.Kind < 0 || c.Kind > 15 {
		return false
	}
	for at, n := range []int{c.A, c.B, c.C, c.D, c.E} {
		if at >= counts[c.Kind] && n != 0 {
			return false
		}
	}
	return c.Kind == api.Sense && len(c.Bytes) <= 64 || len(c.Bytes) == 0
}

func (w *words) do(c api.Command) (int, api.Errno) {
	if !mayBe(c) {
		return 0, api.ErrForm
	}
	next := w.clone()
	if c.Kind != api.Sense {
		next.settle()
	}
	n, e := next.step(c)
	if e != api.OK {
		return 0, e
	}
	*w = *next
	return n, api.OK
}

// settle reckons first which lots are held, all of them, and then which orders are let go.
func (w *words) settle() {
	var held []api.Lot
	for _, l := range sorted(w.lots) {
		if l.Status == api.Released && w.isOver(l) {
			held = append(held, l)
		}
	}
	for _, o := range w.orders {
		if o.State == allocated && slices.ContainsFunc(held, func(l api.Lot) bool { return l.Order == o.ID }) {
			w.letGo(o.ID)
		}
	}
	for _, l := range held {
		l.Status, l.Order = api.Held, 0
		w.lots[l.ID] = l
	}
}

func (w *words) letGo(id int) {
	w.orders[id-1].State = open
	for _, l := range w.of(id) {
		l.Order = 0
		w.lots[l.ID] = l
	}
}

// of are an order's lots.
func (w *words) of(order int) []api.Lot {
	return slices.DeleteFunc(sorted(w.lots), func(l api.Lot) bool { return l.Order != order })
}

// goes is the last stay, if it goes on; else one in zone 0.
func goes(l api.Lot) api.Stay {
	if n := len(l.Stays); n > 0 && l.Stays[n-1].To == -1 {
		return l.Stays[n-1]
	}
	return api.Stay{}
}

func (w *words) load(zone int) (load int) {
	for _, l := range w.lots {
		if goes(l).Zone == zone {
			load += l.Units
		}
	}
	return load
}

// ended are a lot's stays, the last one of which, that goes on, ends now.
func ended(l api.Lot, now int) []api.Stay {
	s := slices.Clone(l.Stays)
	if n := len(s) - 1; s[n].From == now {
		return s[:n]
	}
	s[len(s)-1].To = now
	return s
}

// step is what is done, of each kind.
func (w *words) step(c api.Command) (int, api.Errno) {
	switch c.Kind {
	case api.Sense:
		return w.sense(c.Bytes)
	case api.Tick:
		if c.A < 1 || c.A >= end || w.now+c.A >= end {
			return 0, api.ErrArg
		}
		w.now += c.A
		return w.now, api.OK
	case api.AddZone:
		return w.addZone(c)
	case api.AddProduct:
		return w.addProduct(api.Product{ID: c.A, Limit: c.B, Budget: c.C})
	case api.Receive:
		return w.receive(c.A, c.B, c.C, c.D)
	case api.Move:
		return 0, w.move(c.A, c.B)
	case api.Split:
		return w.split(c.A, c.B)
	case api.Merge:
		return 0, w.merge(c.A, c.B)
	case api.Release, api.Hold, api.Review, api.Reject:
		return 0, w.turn(c)
	}
	return w.ask(c)
}

func (w *words) sense(b []byte) (int, api.Errno) {
	f, e := frame.Decode(b)
	if e != api.OK {
		return 0, e
	}
	if _, there := w.zones[f.Zone]; !there {
		return 0, api.ErrNone
	}
	if f.Minute > w.now {
		return 0, api.ErrFuture
	}
	air, door := warmest(w.air[f.Zone]), openest(w.doors[f.Zone])
	if f.Door {
		w.doors[f.Zone] = append(w.doors[f.Zone], api.Mark{Minute: f.Minute, Seq: f.Seq, Open: f.Open})
	} else {
		tenths, _ := frame.Tenths(f)
		w.air[f.Zone] = append(w.air[f.Zone], api.Reading{Minute: f.Minute, Seq: f.Seq, Tenths: tenths})
	}
	if slices.Equal(air, warmest(w.air[f.Zone])) && slices.Equal(door, openest(w.doors[f.Zone])) {
		return 0, api.OK
	}
	return 1, api.OK
}

// in tells whether a number is from one up to another one.
func in(n, from, to int) bool { return from <= n && n <= to }

func isTenth(n int) bool { return in(n, -1<<40, 1<<40) }

func (w *words) addZone(c api.Command) (int, api.Errno) {
	if !in(c.A, 1, 16) || !isTenth(c.B) || !in(c.C, 0, end-1) || !in(c.D, 0, end) || !in(c.E, 0, 2*end-1) {
		return 0, api.ErrArg
	}
	if _, there := w.zones[c.A]; there {
		return 0, api.ErrTwice
	}
	w.zones[c.A] = api.Zone{ID: c.A, Worst: c.B, Gap: c.C, Room: c.D, Dock: c.E&1 == 1, Ajar: c.E >> 1}
	return c.A, api.OK
}

func (w *words) addProduct(p api.Product) (int, api.Errno) {
	if !in(p.ID, 1, 16) || !isTenth(p.Limit) || !in(p.Budget, 0, most) {
		return 0, api.ErrArg
	}
	if _, there := w.products[p.ID]; there {
		return 0, api.ErrTwice
	}
	w.products[p.ID] = p
	return p.ID, api.OK
}

// come is a lot of the next ID.
func (w *words) come(l api.Lot) int {
	w.given++
	l.ID = w.given
	w.lots[l.ID] = l
	return l.ID
}

func (w *words) receive(product, zone, units, expiry int) (int, api.Errno) {
	if !in(units, 1, end) || !in(expiry, 0, end-1) {
		return 0, api.ErrArg
	}
	_, isProduct := w.products[product]
	z, isZone := w.zones[zone]
	if !isProduct || !isZone {
		return 0, api.ErrNone
	}
	if w.given == lastLot || w.load(zone)+units > z.Room {
		return 0, api.ErrFull
	}
	return w.come(api.Lot{Product: product, Units: units, Expiry: expiry, Stays: []api.Stay{{Zone: zone, From: w.now, To: -1}}}), api.OK
}

func (w *words) move(id, zone int) api.Errno {
	l, isLot := w.lots[id]
	z, isZone := w.zones[zone]
	at := goes(l)
	switch {
	case !isLot || !isZone:
		return api.ErrNone
	case at.Zone == 0:
		return api.ErrState
	case at.Zone == zone:
		return api.OK
	case w.load(zone)+l.Units > z.Room:
		return api.ErrFull
	}
	l.Stays = ended(l, w.now)
	if n := len(l.Stays) - 1; n >= 0 && l.Stays[n].Zone == zone {
		l.Stays[n].To = -1
	} else {
		l.Stays = append(l.Stays, api.Stay{Zone: zone, From: w.now, To: -1})
	}
	w.lots[id] = l
	return api.OK
}

func (w *words) split(id, units int) (int, api.Errno) {
	l, there := w.lots[id]
	switch {
	case !there:
		return 0, api.ErrNone
	case !in(units, 1, l.Units-1):
		return 0, api.ErrArg
	case goes(l).Zone == 0:
		return 0, api.ErrState
	case w.given == lastLot:
		return 0, api.ErrFull
	}
	l.Units -= units
	w.lots[id] = l
	l.Units = units
	return w.come(l), api.OK
}

// areAlike tells whether two lots differ in nothing but ID and Units.
func areAlike(a, b api.Lot) bool {
	return slices.Equal(a.Stays, b.Stays) && a.Product == b.Product && a.Expiry == b.Expiry && a.Grant == b.Grant && a.Order == b.Order && a.Status == b.Status
}

func (w *words) merge(into, from int) api.Errno {
	a, isThere := w.lots[into]
	b, there := w.lots[from]
	switch {
	case !isThere || !there:
		return api.ErrNone
	case into == from:
		return api.ErrArg
	case goes(a).Zone == 0:
		return api.ErrState
	case !areAlike(a, b):
		return api.ErrUnlike
	}
	a.Units += b.Units
	w.lots[into] = a
	delete(w.lots, from)
	return api.OK
}

// turn is what is done by Release, Hold, Review, and Reject.
func (w *words) turn(c api.Command) api.Errno {
	l, there := w.lots[c.A]
	if !there {
		return api.ErrNone
	}
	if c.Kind == api.Review && !in(c.B, 0, most) {
		return api.ErrArg
	}
	had := l.Order
	switch c.Kind {
	case api.Release:
		if l.Status != api.Quarantine {
			return api.ErrState
		}
		l.Status = api.Released
	case api.Review:
		if l.Status != api.Held {
			return api.ErrState
		}
		l.Status, l.Grant = api.Released, plus(l.Grant, c.B)
	case api.Hold, api.Reject:
		if l.Status > api.Held {
			return api.ErrState
		}
		l.Order, l.Status = 0, api.Held
		if c.Kind == api.Reject {
			l.Status = api.Rejected
		}
	}
	if l.Status == api.Released && w.isOver(l) {
		return api.ErrOver
	}
	w.lots[c.A] = l
	if l.Status != api.Released && had > 0 && w.orders[had-1].State == allocated {
		w.letGo(had)
	}
	return api.OK
}

// ask is what is done by Want, Allocate, Free, and Ship.
func (w *words) ask(c api.Command) (int, api.Errno) {
	if c.Kind == api.Want {
		return w.want(c.A, c.B)
	}
	if !in(c.A, 1, len(w.orders)) {
		return 0, api.ErrNone
	}
	from := allocated
	if c.Kind == api.Allocate {
		from = open
	}
	switch {
	case w.orders[c.A-1].State != from:
		return 0, api.ErrState
	case c.Kind == api.Allocate:
		return w.allocate(w.orders[c.A-1])
	case c.Kind == api.Ship:
		return w.ship(c.A)
	}
	w.letGo(c.A)
	return 0, api.OK
}

func (w *words) want(product, units int) (int, api.Errno) {
	if _, there := w.products[product]; !there {
		return 0, api.ErrNone
	}
	if !in(units, 1, end) {
		return 0, api.ErrArg
	}
	if len(w.orders) == lastWant {
		return 0, api.ErrFull
	}
	id := len(w.orders) + 1
	w.orders = append(w.orders, api.Order{ID: id, Product: product, Units: units})
	return id, api.OK
}

// may tells whether a lot may be allocated, or shipped.
func (w *words) may(l api.Lot) api.Errno {
	switch {
	case l.Status != api.Released:
		return api.ErrState
	case w.now >= l.Expiry:
		return api.ErrOld
	case w.isOver(l):
		return api.ErrOver
	}
	return api.OK
}

func (w *words) allocate(o api.Order) (picked int, e api.Errno) {
	l := slices.DeleteFunc(w.of(0), func(l api.Lot) bool { return l.Product != o.Product || w.may(l) != api.OK })
	slices.SortStableFunc(l, func(a, b api.Lot) int { return a.Expiry - b.Expiry })
	left := o.Units
	for ; left > 0; picked++ {
		if picked == len(l) {
			return 0, api.ErrShort
		}
		one := l[picked]
		if one.Units > left {
			id, e := w.split(one.ID, left)
			if e != api.OK {
				return 0, e
			}
			one = w.lots[id]
		}
		one.Order = o.ID
		w.lots[one.ID] = one
		left -= one.Units
	}
	w.orders[o.ID-1].State = allocated
	return picked, api.OK
}

func (w *words) ship(order int) (int, api.Errno) {
	lots := w.of(order)
	for _, l := range lots {
		if e := w.may(l); e != api.OK {
			return 0, e
		}
		if !w.zones[goes(l).Zone].Dock {
			return 0, api.ErrDock
		}
	}
	for _, l := range lots {
		w.certs = append(w.certs, api.Cert{ID: len(w.certs) + 1, Order: order, Lot: l.ID, Product: l.Product, Units: l.Units, Minute: w.now, Exposure: w.upto(l, w.now), Allowance: w.allowance(l)})
		l.Status, l.Stays = api.Shipped, ended(l, w.now)
		w.lots[l.ID] = l
	}
	w.orders[order-1].State = shipped
	return len(lots), api.OK
}
