package house_test

import (
	"fmt"
	"math"
	"slices"
	"testing"

	"hoarfrost/api"
	"hoarfrost/check"
	"hoarfrost/degree"
	"hoarfrost/frame"
	"hoarfrost/house"
)

// The commands.

func tick(minutes int) api.Command { return api.Command{Kind: api.Tick, A: minutes} }

func addZone(z api.Zone) api.Command {
	c := api.Command{Kind: api.AddZone, A: z.ID, B: z.Worst, C: z.Gap, D: z.Room, E: 2 * z.Ajar}
	if z.Dock {
		c.E++
	}
	return c
}

func addProduct(id, limit, budget int) api.Command {
	return api.Command{Kind: api.AddProduct, A: id, B: limit, C: budget}
}

func receive(product, zone, units, expiry int) api.Command {
	return api.Command{Kind: api.Receive, A: product, B: zone, C: units, D: expiry}
}

func move(lot, zone int) api.Command   { return api.Command{Kind: api.Move, A: lot, B: zone} }
func split(lot, units int) api.Command { return api.Command{Kind: api.Split, A: lot, B: units} }
func merge(into, from int) api.Command { return api.Command{Kind: api.Merge, A: into, B: from} }
func release(lot int) api.Command      { return api.Command{Kind: api.Release, A: lot} }
func hold(lot int) api.Command         { return api.Command{Kind: api.Hold, A: lot} }
func reject(lot int) api.Command       { return api.Command{Kind: api.Reject, A: lot} }
func review(lot, grant int) api.Command {
	return api.Command{Kind: api.Review, A: lot, B: grant}
}
func want(product, units int) api.Command {
	return api.Command{Kind: api.Want, A: product, B: units}
}
func allocate(order int) api.Command { return api.Command{Kind: api.Allocate, A: order} }
func free(order int) api.Command     { return api.Command{Kind: api.Free, A: order} }
func ship(order int) api.Command     { return api.Command{Kind: api.Ship, A: order} }

// sense is that of a frame; of one that may not be, of its bytes as they would stand.
func sense(b []byte) api.Command { return api.Command{Kind: api.Sense, Bytes: b} }

func framed(f api.Frame) api.Command {
	b, e := frame.Encode(f)
	if e != api.OK {
		panic(fmt.Sprintf("no frame: %v", f))
	}
	return sense(b)
}

// air is a frame of the air, of so many tenths.
func air(zone, minute, seq, tenths int) api.Command {
	return framed(api.Frame{Zone: zone, Minute: minute, Seq: seq, Bits: math.Float64bits(degree.Float(tenths))})
}

// door is a frame of a door.
func door(zone, minute, seq int, isOpen bool) api.Command {
	return framed(api.Frame{Zone: zone, Minute: minute, Seq: seq, Door: true, Open: isOpen})
}

// pair is a house, and the one by the words, that are asked the same, and tell the same, and have the same behind each step.
type pair struct {
	t *testing.T
	h *house.House
	w *words
}

// byWords is wanted where what it is by the words is enough.
const byWords = -1

// twins are new; made are those that a state tells.
func twins(t *testing.T) pair { return pair{t, house.New(), newWords()} }

func made(t *testing.T, s house.State) pair {
	t.Helper()
	h, e := house.Make(s)
	if e != api.OK || h == nil {
		t.Fatalf("Make: error %d", e)
	}
	p := pair{t, h, wordsOf(s)}
	p.have("Make")
	return p
}

// try does a command in both, and wants the same of both, and of what they have.
func (p pair) try(c api.Command) (int, api.Errno) {
	p.t.Helper()
	before, flagged := fmt.Sprint(p.h.Dump()), fmt.Sprint(p.h.Recall())
	n, e := p.h.Do(c)
	m, f := p.w.do(c)
	if n != m || e != f {
		p.t.Fatalf("%v: %d, error %d; by the words %d, error %d", c, n, e, m, f)
	}
	if e != api.OK && (n != 0 || fmt.Sprint(p.h.Dump()) != before || fmt.Sprint(p.h.Recall()) != flagged) {
		p.t.Fatalf("%v: error %d told %d, and changed %s into %v", c, e, n, before, p.h.Dump())
	}
	p.have(fmt.Sprint(c))
	return n, e
}

// ok wants commands to have no error, and the last one to tell a number.
func (p pair) ok(tells int, l ...api.Command) {
	p.t.Helper()
	for at, c := range l {
		if n, e := p.try(c); e != api.OK || at == len(l)-1 && tells != byWords && n != tells {
			p.t.Fatalf("%v: %d, error %d, not %d", c, n, e, tells)
		}
	}
}

// no wants each of commands to have an error.
func (p pair) no(want api.Errno, l ...api.Command) {
	p.t.Helper()
	for _, c := range l {
		if n, e := p.try(c); n != 0 || e != want {
			p.t.Fatalf("%v: %d, error %d, not error %d", c, n, e, want)
		}
	}
}

// have wants both to have, and to tell, the same.
func (p pair) have(what string) {
	p.t.Helper()
	if a, b := p.h.Dump(), p.w.state(); fmt.Sprint(a) != fmt.Sprint(b) {
		p.t.Fatalf("%s: Dump: %v\nnot %v", what, a, b)
	}
	for id := -1; id < p.w.given+2; id++ {
		n, e := p.h.Exposure(id)
		if m, f := p.w.exposure(id); n != m || e != f {
			p.t.Fatalf("%s: Exposure(%d): %d, error %d; by the words %d, error %d", what, id, n, e, m, f)
		}
	}
	if a, b := p.h.Recall(), p.w.recall(); !slices.Equal(a, b) {
		p.t.Fatalf("%s: Recall: %v, not %v", what, a, b)
	}
	if p.w.now > 5000 {
		return // minute by minute that takes too long, and tells no more
	}
	for zone := range 18 {
		a, e := p.h.Alarms(zone)
		if b, f := p.w.alarms(zone); !slices.Equal(a, b) || e != f {
			p.t.Fatalf("%s: Alarms(%d): %v, error %d; by the words %v, error %d", what, zone, a, e, b, f)
		}
	}
}

// lot is the one with an ID.
func (p pair) lot(id int) api.Lot {
	p.t.Helper()
	for _, l := range p.h.Dump().Lots {
		if l.ID == id {
			return l
		}
	}
	p.t.Fatalf("no lot %d", id)
	return api.Lot{}
}

// is wants a lot to have that status, and that order.
func (p pair) is(id int, st api.Status, order int) {
	p.t.Helper()
	if l := p.lot(id); l.Status != st || l.Order != order {
		p.t.Fatalf("lot %d: %v, not status %d, order %d", id, l, st, order)
	}
}

// stands wants an order to be in that state.
func (p pair) stands(id, state int) {
	p.t.Helper()
	if o := p.h.Dump().Orders[id-1]; o.State != state {
		p.t.Fatalf("order %d: %v, not state %d", id, o, state)
	}
}

// exposed wants a lot to have that exposure.
func (p pair) exposed(id, want int) {
	p.t.Helper()
	if n, e := p.h.Exposure(id); n != want || e != api.OK {
		p.t.Fatalf("Exposure(%d): %d, error %d, not %d", id, n, e, want)
	}
}

// flags wants just these certificates to be flagged.
func (p pair) flags(ids ...int) {
	p.t.Helper()
	if l := p.h.Recall(); !slices.Equal(l, ids) {
		p.t.Fatalf("Recall: %v, not %v", l, ids)
	}
}

// furnished is a house at minute 0: zones 1 (a dock), 2 and 3 (a dock), of which just 3 is, silent, too warm for its products: each minute there is 10; products 1 and 2, of which 2 has no budget.
func furnished(t *testing.T) pair {
	t.Helper()
	p := twins(t)
	p.ok(byWords,
		addZone(api.Zone{ID: 1, Worst: 40, Gap: 5, Room: 1000, Dock: true, Ajar: 3}),
		addZone(api.Zone{ID: 2, Worst: 40, Gap: 0, Room: 60}),
		addZone(api.Zone{ID: 3, Worst: 50, Gap: 5, Room: 2000, Dock: true, Ajar: 1}),
		addProduct(1, 40, 100),
		addProduct(2, 40, 0),
	)
	return p
}

// stocked is such a house at minute 5, with lots of product 1 in zone 1, all of which are released: 1 with 6 units, that end at 50, 2 with 5, at 30, 3 with 4, at 50, and 4 with 10 of product 2, at 50.
func stocked(t *testing.T) pair {
	t.Helper()
	p := furnished(t)
	p.ok(5, receive(1, 1, 6, 50), receive(1, 1, 5, 30), receive(1, 1, 4, 50), receive(2, 1, 10, 50), release(1), release(2), release(3), release(4), tick(5))
	return p
}

// anything is one command of each kind, that may be.
func anything() []api.Command {
	return []api.Command{air(1, 0, 0, 10), tick(1), addZone(api.Zone{ID: 9}), addProduct(9, 1, 1), receive(1, 1, 1, 1), move(1, 2), split(1, 1), merge(1, 2), release(1), hold(1), review(1, 1), reject(1), want(1, 1), allocate(1), free(1), ship(1)}
}

// wild are numbers that are no lot's, no order's, and no minutes' that may be; some would be, if they wrapped round.
func wild() []int {
	return []int{0, -1, -2, -256, 257, 1 << 16, end, end + 1, 1<<32 + 1, -1<<32 + 1, math.MinInt, math.MinInt + 1, math.MaxInt - 1, math.MaxInt}
}

// P19.1, H1: a house without anything.
func TestNew(t *testing.T) {
	p := twins(t)
	if p.h == nil {
		t.Fatal("New: nil")
	}
	p.have("New")
	if s := p.h.Dump(); s.Now != 0 || s.Given != 0 || len(s.Zones)+len(s.Products)+len(s.Readings)+len(s.Marks)+len(s.Lots)+len(s.Orders)+len(s.Certs) != 0 {
		t.Errorf("Dump: %v", s)
	}
	for _, n := range append(wild(), 1, 16) {
		if x, e := p.h.Exposure(n); x != 0 || e != api.ErrNone {
			t.Errorf("Exposure(%d): %d, error %d", n, x, e)
		}
		if l, e := p.h.Alarms(n); len(l) != 0 || e != api.ErrNone {
			t.Errorf("Alarms(%d): %v, error %d", n, l, e)
		}
	}
	p.flags()
	p.no(api.ErrNone, air(1, 0, 0, 10), door(1, 0, 0, true), receive(1, 1, 1, 1), move(1, 1), split(1, 1), merge(1, 2), release(1), hold(1), review(1, 1), reject(1), want(1, 1), allocate(1), free(1), ship(1))
	p.ok(1, tick(1))
}

// P1, rule 8: a nil house, whatever else is wrong.
func TestNilHouse(t *testing.T) {
	var h *house.House
	for _, c := range append(anything(), api.Command{Kind: -1}, api.Command{Kind: 16}, tick(0), sense(nil), sense(make([]byte, 65)), api.Command{Kind: api.Tick, A: 1, E: 1}) {
		if n, e := h.Do(c); n != 0 || e != api.ErrArg {
			t.Errorf("%v: %d, error %d", c, n, e)
		}
	}
	for _, id := range append(wild(), 1) {
		if n, e := h.Exposure(id); n != 0 || e != api.ErrArg {
			t.Errorf("Exposure(%d): %d, error %d", id, n, e)
		}
		if l, e := h.Alarms(id); len(l) != 0 || e != api.ErrArg {
			t.Errorf("Alarms(%d): %v, error %d", id, l, e)
		}
	}
	if len(h.Recall()) != 0 || fmt.Sprint(h.Dump()) != fmt.Sprint(house.State{}) {
		t.Error("a nil house has something")
	}
}

// P19.1: a command that may not be, of each kind, also where the house would be settled.
func TestForm(t *testing.T) {
	p := stocked(t)
	p.ok(byWords, want(1, 15), allocate(1), air(1, 0, 0, 140))
	for _, k := range []api.Kind{-1, 16, 17, 255, 256, math.MinInt, math.MaxInt} {
		p.no(api.ErrForm, api.Command{Kind: k}, api.Command{Kind: k, A: 1})
	}
	for _, c := range anything() {
		for at := counts[c.Kind]; at < 5; at++ {
			for _, n := range []int{1, -1, math.MinInt} {
				wrong := c
				*[]*int{&wrong.A, &wrong.B, &wrong.C, &wrong.D, &wrong.E}[at] = n
				p.no(api.ErrForm, wrong)
			}
		}
		if c.Kind != api.Sense {
			c.Bytes = []byte{0}
			p.no(api.ErrForm, c)
		}
	}
	p.no(api.ErrForm, sense(make([]byte, 65)), sense(make([]byte, 1000)))
	p.is(1, api.Released, 1)
	p.ok(6, tick(1))
	p.is(1, api.Held, 0)
}

// P19.1: bytes that are none, and an empty list of them, are none of any kind's.
func TestEmptyBytes(t *testing.T) {
	p := furnished(t)
	c := tick(3)
	c.Bytes = []byte{}
	p.ok(3, c)
	p.no(api.ErrForm, sense([]byte{}), sense(nil))
}

// P19.1, Sense: of the air, and of a door, at NOW, ahead of it, and one minute above it; known already, and not.
func TestSense(t *testing.T) {
	p := furnished(t)
	p.ok(1, air(1, 0, 0, 45))
	p.ok(10, tick(10))
	p.ok(1, air(1, 10, 7, 45))
	p.ok(1, air(1, 9, 65535, 30))
	p.ok(0, air(1, 10, 7, 45))
	p.ok(0, air(1, 10, 7, 44))
	p.ok(1, air(1, 10, 7, 46))
	p.ok(0, air(1, 10, 7, 45))
	p.ok(1, air(2, 10, 7, 45)) // that of another zone is another one
	p.ok(1, air(1, 10, 8, 45))
	p.ok(1, door(1, 10, 7, false))
	p.ok(0, door(1, 10, 7, false))
	p.ok(1, door(1, 10, 7, true))
	p.ok(0, door(1, 10, 7, true))
	p.ok(0, door(1, 10, 7, false))
	p.ok(1, door(3, 10, 7, true))
	p.ok(1, door(3, 0, 0, true))
	p.no(api.ErrFuture, air(1, 11, 7, 45), air(1, end-1, 0, 45), door(1, 11, 7, true), door(1, end-1, 0, false))
	p.ok(11, tick(1))
	p.ok(1, air(1, 11, 7, 45))
	p.ok(1, door(1, 11, 7, true))
	want := []api.Reading{{Minute: 0, Seq: 0, Tenths: 45}, {Minute: 9, Seq: 65535, Tenths: 30}, {Minute: 10, Seq: 7, Tenths: 46}, {Minute: 10, Seq: 8, Tenths: 45}, {Minute: 11, Seq: 7, Tenths: 45}}
	if s := p.h.Dump(); !slices.Equal(s.Readings[0], want) || len(s.Marks[1]) != 0 || len(s.Marks[2]) != 2 {
		t.Errorf("Readings, Marks: %v", s)
	}
}

// P19.1, Sense: the air is as warm as the frame's tenths, with all the edges of a float64.
func TestSenseTenths(t *testing.T) {
	p := furnished(t)
	for seq, x := range []struct {
		degrees float64
		tenths  int
	}{{5.2, 52}, {0.01, 1}, {-0.01, 0}, {-0.1, -1}, {math.Copysign(0, -1), 0}, {math.Inf(1), 1 << 40}, {math.Inf(-1), -1 << 40}, {math.MaxFloat64, 1 << 40}} {
		p.ok(1, framed(api.Frame{Zone: 1, Seq: seq, Bits: math.Float64bits(x.degrees)}))
		if r := p.h.Dump().Readings[0][seq]; r.Tenths != x.tenths {
			t.Errorf("%v degrees: %v", x.degrees, r)
		}
	}
}

// P19.1, Sense: each error, ahead of those that come behind it.
func TestSenseErrors(t *testing.T) {
	p := furnished(t)
	for _, n := range []int{0, 1, 2, 9, 11, 16, 18, 63, 64} {
		p.no(api.ErrForm, sense(make([]byte, n)))
	}
	for _, c := range []api.Command{air(1, 0, 0, 45), door(1, 0, 0, true), air(4, 9, 9, 45), door(4, 9, 9, true)} {
		for at := range c.Bytes {
			turned := slices.Clone(c.Bytes)
			turned[at] ^= 16
			p.no(api.ErrSum, sense(turned))
		}
		for _, zone := range []byte{0, 17, 255} {
			none := slices.Clone(c.Bytes[:len(c.Bytes)-2])
			none[1] = zone
			p.no(api.ErrForm, sense(check.Seal(none)))
		}
	}
	nan := []byte{0, 1, 0, 0, 0, 0, 0, 0x7f, 0xf8, 0, 0, 0, 0, 0, 1}
	p.no(api.ErrForm, sense(check.Seal(nan)))
	p.no(api.ErrNone, air(4, 0, 0, 45), door(4, 0, 0, true), air(16, 9, 0, 45), door(16, 9, 0, true))
	p.no(api.ErrFuture, air(3, 1, 0, 45), door(3, 1, 0, true))
}

// P19.1, Tick: by 0, below 0, 1, up to 2^20 less 1 and one more, at the ends of int.
func TestTick(t *testing.T) {
	p := twins(t)
	p.no(api.ErrArg, tick(0), tick(-1), tick(-5), tick(math.MinInt), tick(math.MaxInt), tick(end), tick(end+1), tick(1<<32+1))
	p.ok(1, tick(1))
	p.ok(3, tick(2))
	p.no(api.ErrArg, tick(0), tick(-1), tick(-3), tick(-4), tick(math.MinInt), tick(math.MinInt+1), tick(math.MaxInt), tick(math.MaxInt-2), tick(math.MaxInt-3), tick(end-3), tick(end-1))
	p.ok(end-2, tick(end-5))
	p.no(api.ErrArg, tick(2), tick(end-1))
	p.ok(end-1, tick(1))
	p.no(api.ErrArg, tick(1), tick(0), tick(-1), tick(math.MaxInt), tick(end-1))
	q := twins(t)
	q.ok(end-1, tick(end-1))
	q.no(api.ErrArg, tick(1))
}

// P19.1, AddZone: E below 0, odd and even; each of 10's errors.
func TestAddZone(t *testing.T) {
	p := twins(t)
	zone := api.Command{Kind: api.AddZone, A: 1, B: 40, C: 5, D: 60}
	withE := func(id, e int) api.Command {
		c := zone
		c.A, c.E = id, e
		return c
	}
	p.no(api.ErrArg, withE(1, -1), withE(1, -2), withE(1, math.MinInt), withE(1, 2*end), withE(1, 2*end+1), withE(1, math.MaxInt), withE(0, 0), withE(17, 0), withE(-1, 1))
	for at, e := range []int{0, 1, 2, 3, 6, 7, 2*end - 2, 2*end - 1} {
		p.ok(16-at, withE(16-at, e))
	}
	wanted := []api.Zone{
		{ID: 9, Worst: 40, Gap: 5, Room: 60, Dock: true, Ajar: end - 1}, {ID: 10, Worst: 40, Gap: 5, Room: 60, Ajar: end - 1},
		{ID: 11, Worst: 40, Gap: 5, Room: 60, Dock: true, Ajar: 3}, {ID: 12, Worst: 40, Gap: 5, Room: 60, Ajar: 3},
		{ID: 13, Worst: 40, Gap: 5, Room: 60, Dock: true, Ajar: 1}, {ID: 14, Worst: 40, Gap: 5, Room: 60, Ajar: 1},
		{ID: 15, Worst: 40, Gap: 5, Room: 60, Dock: true}, {ID: 16, Worst: 40, Gap: 5, Room: 60},
	}
	if s := p.h.Dump(); !slices.Equal(s.Zones, wanted) || len(s.Readings) != 8 || len(s.Marks) != 8 {
		t.Errorf("Dump: %v", s)
	}
	p.no(api.ErrTwice, withE(16, 0), withE(9, 5))
	p.no(api.ErrArg, withE(16, -1), withE(16, 2*end))
	for _, l := range [][3]int{{1<<40 + 1, 0, 0}, {-1<<40 - 1, 0, 0}, {0, -1, 0}, {0, end, 0}, {0, 0, -1}, {0, 0, end + 1}} {
		p.no(api.ErrArg, api.Command{Kind: api.AddZone, A: 1, B: l[0], C: l[1], D: l[2]}, api.Command{Kind: api.AddZone, A: 16, B: l[0], C: l[1], D: l[2]})
	}
	p.ok(1, api.Command{Kind: api.AddZone, A: 1, B: 1 << 40, C: end - 1, D: end})
	p.ok(2, api.Command{Kind: api.AddZone, A: 2, B: -1 << 40})
}

// P19.1, AddZone: one that comes between two that are there takes nothing from them, and a reading that was refused for it is heard then.
func TestAddZoneBetween(t *testing.T) {
	p := twins(t)
	p.ok(byWords, addZone(api.Zone{ID: 2, Worst: 70, Room: 9}), addZone(api.Zone{ID: 8, Worst: 60, Room: 9, Ajar: 1}), addProduct(3, 40, 1000), tick(4))
	p.ok(1, air(2, 1, 0, 20), air(8, 2, 0, 30), door(8, 0, 0, true))
	p.no(api.ErrNone, air(5, 1, 0, 20), door(5, 1, 0, true), receive(3, 5, 1, 9))
	p.ok(1, receive(3, 8, 1, 9))
	p.ok(5, addZone(api.Zone{ID: 5, Worst: 90, Gap: 1, Room: 9}))
	p.ok(1, air(5, 1, 0, 25), door(5, 1, 0, true))
	p.ok(2, receive(3, 5, 1, 9))
	p.ok(6, tick(2))
	p.exposed(1, 40)
	p.exposed(2, 100)
	s := p.h.Dump()
	if fmt.Sprint(s.Readings) != "[[{1 0 20}] [{1 0 25}] [{2 0 30}]]" || fmt.Sprint(s.Marks) != "[[] [{1 0 true}] [{0 0 true}]]" {
		t.Errorf("Readings %v, Marks %v", s.Readings, s.Marks)
	}
}

// P19.1, AddProduct: each of 10's errors.
func TestAddProduct(t *testing.T) {
	p := twins(t)
	for _, l := range [][3]int{{0, 0, 0}, {17, 0, 0}, {-1, 0, 0}, {1, 1<<40 + 1, 0}, {1, -1<<40 - 1, 0}, {1, 0, -1}, {1, 0, most + 1}, {math.MaxInt, 0, 0}} {
		p.no(api.ErrArg, addProduct(l[0], l[1], l[2]))
	}
	p.ok(16, addProduct(16, 1<<40, most))
	p.ok(1, addProduct(1, -1<<40, 0))
	p.no(api.ErrTwice, addProduct(16, 1, 1), addProduct(1, -1<<40, 0))
	p.no(api.ErrArg, addProduct(16, 1, -1))
	if s := p.h.Dump(); fmt.Sprint(s.Products) != fmt.Sprint([]api.Product{{ID: 1, Limit: -1 << 40}, {ID: 16, Limit: 1 << 40, Budget: most}}) {
		t.Errorf("Products: %v", s.Products)
	}
}

// P19.1, Receive: a lot comes now; each of 12's errors.
func TestReceive(t *testing.T) {
	p := furnished(t)
	p.ok(7, tick(7))
	p.ok(1, receive(1, 2, 59, 0))
	if l := fmt.Sprint(p.lot(1)); l != "{1 1 59 0 0 0 0 [{2 7 -1}]}" {
		t.Errorf("lot 1: %s", l)
	}
	for _, n := range []int{0, -1, end + 1, math.MinInt, math.MaxInt} {
		p.no(api.ErrArg, receive(1, 1, n, 5), receive(9, 9, n, 5))
	}
	for _, n := range []int{-1, end, math.MinInt, math.MaxInt} {
		p.no(api.ErrArg, receive(1, 1, 1, n))
	}
	p.no(api.ErrNone, receive(3, 1, 1, 5), receive(0, 1, 1, 5), receive(1, 4, 1, 5), receive(1, 0, end, 5), receive(-1, 1, 1, 5), receive(1, math.MaxInt, 1, 5))
	p.no(api.ErrFull, receive(1, 2, 2, 5), receive(1, 1, 1001, 5), receive(1, 1, end, 5))
	p.ok(2, receive(2, 2, 1, end-1))
	p.no(api.ErrFull, receive(2, 2, 1, 5))
	p.ok(3, receive(1, 1, 1000, 5))
}

// P19.1, Move: a lot is there from now on; each of 12's errors.
func TestMove(t *testing.T) {
	p := stocked(t)
	p.ok(0, move(1, 3))
	p.ok(7, tick(2))
	p.ok(0, move(1, 1))
	p.ok(0, move(1, 1))
	p.ok(0, move(1, 2))
	if l := p.lot(1); fmt.Sprint(l.Stays) != "[{1 0 5} {3 5 7} {2 7 -1}]" {
		t.Errorf("lot 1: %v", l)
	}
	p.exposed(1, 20)
	p.no(api.ErrNone, move(5, 1), move(1, 4), move(0, 1), move(1, 0), move(-1, -1), move(math.MaxInt, 1), move(1, math.MinInt))
	p.ok(5, receive(1, 1, 55, 50))
	p.no(api.ErrFull, move(5, 2))
	p.ok(0, move(1, 1), move(5, 2))
	p.no(api.ErrFull, move(1, 2))
	p.ok(1, want(1, 1))
	p.ok(1, allocate(1))
	p.ok(1, ship(1)) // of lot 2, which ends first, lot 6
	p.no(api.ErrState, move(6, 1), move(6, 2))
	p.no(api.ErrNone, move(6, 4))
}

// P19.1, Split: another lot, like the first one, has so many units; each of 12's errors.
func TestSplit(t *testing.T) {
	p := stocked(t)
	p.no(api.ErrNone, split(5, 1), split(0, 1), split(-1, 0), split(math.MaxInt, 1))
	for _, n := range []int{0, -1, 6, 7, math.MinInt, math.MaxInt} {
		p.no(api.ErrArg, split(1, n))
	}
	p.ok(5, split(1, 5))
	p.no(api.ErrArg, split(1, 1))
	if a, b := p.lot(1), p.lot(5); a.Units != 1 || b.Units != 5 || b.Status != api.Released || !slices.Equal(a.Stays, b.Stays) {
		t.Errorf("%v, %v", a, b)
	}
	p.ok(1, want(1, 15))
	p.ok(4, allocate(1))
	p.ok(6, split(5, 2)) // an order's lot is split: both are the order's
	p.is(5, api.Released, 1)
	p.is(6, api.Released, 1)
	p.ok(5, ship(1))
	p.no(api.ErrState, split(5, 1), split(2, 4))
	p.no(api.ErrArg, split(5, 3), split(2, 5))
}

// P19.1, Merge: a lot has the units of both; each of 12's errors.
func TestMerge(t *testing.T) {
	p := stocked(t)
	p.no(api.ErrNone, merge(1, 5), merge(5, 1), merge(5, 5), merge(0, 1), merge(1, math.MaxInt))
	p.no(api.ErrArg, merge(1, 1), merge(4, 4))
	p.no(api.ErrUnlike, merge(1, 2), merge(1, 4), merge(3, 4))
	p.ok(0, merge(3, 1))
	if l := p.lot(3); l.Units != 10 {
		t.Errorf("lot 3: %v", l)
	}
	p.no(api.ErrNone, merge(3, 1), release(1), split(1, 1))
	p.ok(5, split(3, 4))
	p.ok(1, want(1, 6))
	p.ok(2, allocate(1)) // lot 2 whole, and 1 unit of lot 3, which is lot 6
	p.no(api.ErrUnlike, merge(3, 6), merge(6, 3))
	p.ok(7, split(2, 1))
	p.ok(0, merge(7, 2))
	p.ok(2, ship(1))
	p.no(api.ErrState, merge(6, 7), merge(7, 3))
	p.no(api.ErrUnlike, merge(3, 6))
	p.no(api.ErrNone, merge(7, 2))
	p.ok(0, merge(3, 5))
}

// P19.1: no more than 256 lots ever come; one more is refused, be it received, split, or picked in part.
func TestLotsFull(t *testing.T) {
	p := furnished(t)
	for id := 1; id < lastLot; id++ {
		p.ok(id, receive(1, 1, 3, 100+id))
	}
	p.ok(3, release(1), release(2), release(3), want(1, 4), want(1, 4), want(1, 5))
	p.ok(2, allocate(1)) // lot 1 whole, and 1 unit of lot 2, which is lot 256
	p.is(lastLot, api.Released, 1)
	p.no(api.ErrFull, allocate(2), receive(1, 1, 3, 100), split(3, 1), split(9, 1))
	p.no(api.ErrArg, split(3, 3), receive(1, 1, 0, 100))
	p.no(api.ErrNone, receive(9, 1, 1, 1))
	p.stands(2, open)
	p.is(2, api.Released, 0)
	p.ok(2, allocate(3)) // lots 2 and 3, both whole
	p.no(api.ErrShort, allocate(2))
}

// P19.1, Want: of a product that is not there, ahead of 16's errors.
func TestWant(t *testing.T) {
	p := furnished(t)
	for _, n := range append(wild(), 3, 16, 17) {
		p.no(api.ErrNone, want(n, 1), want(n, 0), want(n, end+1))
	}
	for _, n := range []int{0, -1, end + 1, math.MinInt, math.MaxInt} {
		p.no(api.ErrArg, want(1, n))
	}
	for id := 1; id <= lastWant; id++ {
		p.ok(id, want(1+id%2, id))
	}
	p.no(api.ErrArg, want(1, 0))
	p.no(api.ErrNone, want(3, 1))
	p.no(api.ErrFull, want(1, 1), want(2, end))
	q := furnished(t)
	q.ok(1, want(1, end))
	if o := q.h.Dump().Orders; fmt.Sprint(o) != fmt.Sprint([]api.Order{{ID: 1, Product: 1, Units: end}}) {
		t.Errorf("Orders: %v", o)
	}
}
