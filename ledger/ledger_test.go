package ledger_test

import (
	"cmp"
	"fmt"
	"math"
	"slices"
	"testing"

	"hoarfrost/api"
	"hoarfrost/ledger"
)

// The ends of what a zone, a reading and a limit may have, and of the minutes that have an excess.
const (
	top        = 1 << 40
	lastMinute = 1<<20 - 1
	lastSeq    = 65535
	end        = 1 << 20
)

func reading(minute, seq, tenths int) api.Reading {
	return api.Reading{Minute: minute, Seq: seq, Tenths: tenths}
}

func zone(id, worst, gap int) api.Zone { return api.Zone{ID: id, Worst: worst, Gap: gap} }

// on is a stay that goes on; stay is one that ended.
func on(zone, from int) api.Stay { return api.Stay{Zone: zone, From: from, To: -1} }

func stay(zone, from, to int) api.Stay { return api.Stay{Zone: zone, From: from, To: to} }

func list(l ...api.Stay) []api.Stay { return l }

// The numbers that a limit, and a Worst, may be, and those that they may not be; some would be, if they wrapped round.
func tenths() []int { return []int{-top, -top + 1, -181, -1, 0, 1, 45, 100, top - 1, top} }

func noTenths() []int {
	return []int{-top - 1, top + 1, -2 * top, 2 * top, -1 << 62, 1 << 62, math.MinInt, math.MinInt + 1, math.MaxInt}
}

// Likewise those of a Gap, and of an ID.
func gaps() []int { return []int{0, 1, 5, 65536, lastMinute - 1, lastMinute} }

func noGaps() []int {
	return []int{-1, end, -2, end + 1, -end, 1<<32 + 1, -1<<32 + 1, math.MinInt, math.MinInt + 1, math.MaxInt}
}

func ids() []int { return []int{1, 2, 16, 17, 256, 1<<16 + 1, 1 << 20, 1<<32 + 1, math.MaxInt} }

func noIDs() []int {
	return []int{0, -1, -2, -16, -1<<32 + 1, math.MinInt, math.MinInt + 1}
}

// Minutes at the ends of those that have an excess, and beyond all.
func ends() []int {
	return []int{math.MinInt, math.MinInt + 1, -1 << 40, -end, -2, -1, 0, 1, 2, lastMinute - 1, lastMinute, end, end + 1, 1<<21 - 1, 1 << 21, 1<<32 + 1, 1 << 40, math.MaxInt - 1, math.MaxInt}
}

// dice tell numbers that look like any, the same in each run.
type dice uint64

func (d *dice) below(n int) int {
	*d = *d*6364136223846793005 + 1442695040888963407
	x := uint64(*d^*d>>31) * 0x9e3779b97f4a7c15
	return int((x >> 1) % uint64(n))
}

// one is one of some numbers.
func (d *dice) one(l ...int) int { return l[d.below(len(l))] }

// few is a reading close to others, perhaps of the same Minute and Seq; far is one of all.
func (d *dice) few() api.Reading { return reading(d.below(41), d.below(3), d.below(200)-50) }

func (d *dice) far() api.Reading {
	return reading(d.below(end), d.below(lastSeq+1), d.below(2*top+1)-top)
}

// stays are up to six, in zones 1 to 4; the last one may go on.
func (d *dice) stays() []api.Stay {
	l, from := []api.Stay{}, d.below(15)
	for range d.below(7) {
		to := from + 1 + d.below(12)
		l = append(l, stay(1+d.below(4), from, to))
		from = to
	}
	if n := len(l); n > 0 && d.below(2) == 0 {
		l[n-1].To = -1
	}
	return l
}

// shuffled are the same things in another order.
func shuffled[T any](d *dice, l []T) []T {
	l = slices.Clone(l)
	for i := range l {
		j := d.below(i + 1)
		l[i], l[j] = l[j], l[i]
	}
	return l
}

// words is a ledger by the words: of each zone, by its ID, its Worst, its Gap and its readings, as they came.
type words map[int]*air

type air struct {
	worst, gap int
	readings   []api.Reading
}

func isTenth(n int) bool { return n >= -top && n <= top }

func (w words) addZone(z api.Zone) api.Errno {
	switch {
	case z.ID <= 0 || !isTenth(z.Worst) || z.Gap < 0 || z.Gap > lastMinute:
		return api.ErrArg
	case w[z.ID] != nil:
		return api.ErrTwice
	}
	w[z.ID] = &air{worst: z.Worst, gap: z.Gap}
	return api.OK
}

func (w words) put(zone int, r api.Reading) (bool, api.Errno) {
	a := w[zone]
	if a == nil {
		return false, api.ErrNone
	}
	if r.Minute < 0 || r.Minute > lastMinute || r.Seq < 0 || r.Seq > lastSeq || !isTenth(r.Tenths) {
		return false, api.ErrArg
	}
	for i, other := range a.readings {
		if other.Minute == r.Minute && other.Seq == r.Seq {
			a.readings[i].Tenths = max(r.Tenths, other.Tenths)
			return r.Tenths > other.Tenths, api.OK
		}
	}
	a.readings = append(a.readings, r)
	return true, api.OK
}

// at goes through all readings that came, as they came.
func (a *air) at(minute int) int {
	best := -1
	for i, r := range a.readings {
		if r.Minute <= minute && (best < 0 || r.Minute > a.readings[best].Minute || r.Minute == a.readings[best].Minute && r.Seq > a.readings[best].Seq) {
			best = i
		}
	}
	if best < 0 || minute-a.readings[best].Minute > a.gap {
		return a.worst
	}
	return a.readings[best].Tenths
}

func (a *air) all() []api.Reading {
	return slices.SortedFunc(slices.Values(a.readings), func(a, b api.Reading) int {
		return cmp.Or(cmp.Compare(a.Minute, b.Minute), cmp.Compare(a.Seq, b.Seq))
	})
}

// mayStay tells whether stays may be: each one begins where the one ahead of it ends.
func mayStay(l []api.Stay) bool {
	for i, s := range l {
		goesOn := i == len(l)-1 && s.To == -1
		if s.Zone < 1 || s.From < 0 || !goesOn && s.To <= s.From || i > 0 && l[i-1].To != s.From {
			return false
		}
	}
	return true
}

// exposure goes through all minutes, one by one, and adds up what each one's zone was above the limit.
func (w words) exposure(limit int, s []api.Stay, upto int) (sum int) {
	if !isTenth(limit) || !mayStay(s) {
		return 0
	}
	for minute := range min(max(upto, 0), end) {
		for len(s) > 0 && s[0].To != -1 && s[0].To <= minute {
			s = s[1:]
		}
		if len(s) == 0 {
			break
		}
		if a := w[s[0].Zone]; a != nil && s[0].From <= minute {
			sum += max(0, a.at(minute)-limit)
		}
	}
	return sum
}

// pair is a ledger, and the one by the words, that are asked the same, and tell the same.
type pair struct {
	t *testing.T
	l *ledger.Ledger
	w words
}

// having is a pair with zones.
func having(t *testing.T, zones ...api.Zone) pair {
	t.Helper()
	p := pair{t, ledger.New(), words{}}
	for _, z := range zones {
		p.addZone(api.OK, z)
	}
	return p
}

// three is a pair with zones 1, 2 and 3, without a zone 4.
func three(t *testing.T) pair {
	t.Helper()
	return having(t, zone(1, 100, 5), zone(2, 60, 0), zone(3, -20, 12))
}

// byWords is wanted where what it is by the words is enough.
const byWords api.Errno = -1

func (p pair) addZone(want api.Errno, z api.Zone) api.Errno {
	p.t.Helper()
	e, f := p.l.AddZone(z), p.w.addZone(z)
	if e != f || want != byWords && e != want {
		p.t.Fatalf("AddZone(%v): error %d; by the words error %d; wanted error %d", z, e, f, want)
	}
	return e
}

// put puts a reading, by which something changes, or nothing.
func (p pair) put(changes bool, zone int, r api.Reading) {
	p.t.Helper()
	if changed, e := p.puts(zone, r); changed != changes || e != api.OK {
		p.t.Fatalf("Put(%d, %v): %t, error %d, not %t", zone, r, changed, e, changes)
	}
}

func (p pair) puts(zone int, r api.Reading) (bool, api.Errno) {
	p.t.Helper()
	changed, e := p.l.Put(zone, r)
	if other, f := p.w.put(zone, r); changed != other || e != f {
		p.t.Fatalf("Put(%d, %v): %t, error %d; by the words %t, error %d", zone, r, changed, e, other, f)
	}
	return changed, e
}

// is wants an exposure to be a number that is written out.
func (p pair) is(want, limit int, s []api.Stay, upto int) {
	p.t.Helper()
	if got := p.l.Exposure(limit, s, upto); got != want {
		p.t.Fatalf("Exposure(%d, %v, %d): %d, not %d", limit, s, upto, got, want)
	}
}

// charges wants an exposure to be what it is by the words, and tells it.
func (p pair) charges(limit int, s []api.Stay, upto int) int {
	p.t.Helper()
	want := p.w.exposure(limit, s, upto)
	p.is(want, limit, s, upto)
	return want
}

// have wants the ledger to have what it has by the words, of zones that are there, and that are not.
func (p pair) have() {
	p.t.Helper()
	for _, id := range slices.Concat(ids(), noIDs(), []int{3, 4, 5}) {
		p.hasZone(id)
	}
}

func (p pair) hasZone(id int) {
	p.t.Helper()
	a, all := p.w[id], p.l.Readings(id)
	if a == nil {
		if len(all) != 0 {
			p.t.Fatalf("Readings(%d): %v of a zone that is not there", id, all)
		}
		a = &air{}
	} else if !slices.Equal(all, a.all()) {
		p.t.Fatalf("Readings(%d): %v, not %v", id, all, a.all())
	}
	for _, minute := range a.asked() {
		p.breathes(id, minute)
	}
}

func (p pair) breathes(id, minute int) {
	p.t.Helper()
	want, f := 0, api.ErrNone
	if a := p.w[id]; a != nil {
		want, f = a.at(minute), api.OK
	}
	if got, e := p.l.Air(id, minute); got != want || e != f {
		p.t.Fatalf("Air(%d, %d): %d, error %d, not %d, error %d", id, minute, got, e, want, f)
	}
}

// asked are minutes that tell the air apart: the ends, and about where it may become another one.
func (a *air) asked() []int {
	l := ends()
	for _, r := range a.readings {
		l = append(l, r.Minute-1, r.Minute, r.Minute+1, r.Minute+a.gap, r.Minute+a.gap+1, r.Minute+a.gap+2)
	}
	slices.Sort(l)
	return slices.Compact(l)
}

// P13.1, L1: a ledger without zones: whatever is asked of it, nothing is there.
func TestWithoutZones(t *testing.T) {
	p := having(t)
	if p.l == nil {
		t.Fatal("New: nil")
	}
	p.have()
	for _, id := range slices.Concat(ids(), noIDs()) {
		if changed, e := p.puts(id, reading(1, 1, 1)); changed || e != api.ErrNone {
			t.Errorf("Put(%d): %t, error %d", id, changed, e)
		}
		p.is(0, -top, list(on(max(id, 1), 0)), end)
	}
	p.have()
}

// P13.1, L1, rule 8: a nil ledger, whatever else is wrong.
func TestNilLedger(t *testing.T) {
	var l *ledger.Ledger
	edges := slices.Concat(ids(), noIDs(), tenths(), noTenths(), ends(), noGaps())
	for i, n := range edges {
		other := edges[len(edges)-1-i]
		for _, z := range []api.Zone{zone(n, 100, 5), zone(1, n, 5), zone(1, 100, n), zone(n, other, other), {}} {
			if e := l.AddZone(z); e != api.ErrArg {
				t.Errorf("AddZone(%v): error %d", z, e)
			}
		}
		for _, r := range []api.Reading{reading(n, 0, 0), reading(0, n, 0), reading(0, 0, n), {}} {
			if changed, e := l.Put(n, r); changed || e != api.ErrArg {
				t.Errorf("Put(%d, %v): %t, error %d", n, r, changed, e)
			}
		}
		if air, e := l.Air(n, other); air != 0 || e != api.ErrArg {
			t.Errorf("Air(%d, %d): %d, error %d", n, other, air, e)
		}
		if all := l.Readings(n); len(all) != 0 {
			t.Errorf("Readings(%d): %v", n, all)
		}
		for _, s := range [][]api.Stay{nil, list(on(1, 0)), list(stay(n, 0, 9)), list(stay(1, n, other))} {
			if got := l.Exposure(n, s, other) + l.Exposure(-top, s, n); got != 0 {
				t.Errorf("Exposure of %v: %d", s, got)
			}
		}
	}
}

// P13.1, L1: AddZone: of a zone with any ID from 1 on there is a series with its Worst and Gap, without readings, if there can be such.
func TestAddZone(t *testing.T) {
	for _, id := range slices.Concat(ids(), noIDs()) {
		for _, worst := range slices.Concat(tenths(), noTenths()) {
			for _, gap := range slices.Concat(gaps(), noGaps()) {
				want := api.ErrArg
				if id > 0 && slices.Contains(tenths(), worst) && slices.Contains(gaps(), gap) {
					want = api.OK
				}
				p := having(t)
				p.addZone(want, zone(id, worst, gap))
				p.hasZone(id)
				p.charges(40, list(on(max(id, 1), 0)), 3)
				if want == api.OK {
					p.put(true, id, reading(2, 0, 45))
					p.hasZone(id)
					p.charges(40, list(on(id, 0)), 20)
				}
			}
		}
	}
}

// P13.1, L1: a zone's other fields make no difference, whatever they are.
func TestOtherFields(t *testing.T) {
	for i, n := range slices.Concat(ends(), noTenths()) {
		p := having(t)
		p.addZone(api.OK, api.Zone{ID: 7, Worst: 100, Gap: 5, Room: n, Dock: i%2 == 0, Ajar: -n})
		p.put(true, 7, reading(2, 0, 45))
		p.is(270, 40, list(on(7, 0)), 10)
		p.have()
	}
}

// P13.1, L1, rules 1 and 3: a zone of an ID that is there is ErrTwice, one that may not be ErrArg, also of that ID; the one that is there stays as it was.
func TestAddZoneTwice(t *testing.T) {
	p := three(t)
	p.put(true, 2, reading(9, 0, 45))
	p.put(true, 1, reading(9, 0, 50))
	s := list(stay(1, 0, 8), on(2, 8))
	for _, asked := range []bool{false, true} {
		if asked {
			p.is(8*60+20+5+20, 40, s, 11)
		}
		for _, id := range []int{1, 2, 3} {
			p.addZone(api.ErrTwice, zone(id, 100, 5))
			p.addZone(api.ErrTwice, zone(id, -top, 0))
			p.addZone(api.ErrTwice, zone(id, top, lastMinute))
			for _, n := range noTenths() {
				p.addZone(api.ErrArg, zone(id, n, 5))
			}
			for _, n := range noGaps() {
				p.addZone(api.ErrArg, zone(id, 100, n))
			}
		}
		for _, n := range noIDs() {
			p.addZone(api.ErrArg, zone(n, 100, 5))
		}
		p.have()
		p.is(8*60+20+5+20, 40, s, 11)
	}
	p.put(true, 2, reading(10, 0, 41))
	p.is(8*60+20+5+1, 40, s, 11)
}

// P13.1, L1: a zone that was asked for, ahead of its being there, counts as soon as it is there.
func TestAddedLater(t *testing.T) {
	p := three(t)
	s := list(stay(1, 0, 2), stay(4, 2, 6), on(2, 6))
	p.is(2*60+2*20, 40, s, 8)
	p.addZone(api.OK, zone(4, 47, 0))
	p.is(2*60+4*7+2*20, 40, s, 8)
	p.put(true, 4, reading(3, 0, 44))
	p.is(2*60+3*7+4+2*20, 40, s, 8)
	p.have()
}

// P13.1, L1: readings, as they come: of a Minute and Seq that are there with less Tenths, the same, and greater; each with exposures asked ahead of all, behind each, and behind all.
func TestPut(t *testing.T) {
	s := list(stay(1, 0, 10), on(2, 10))
	for _, asked := range []bool{false, true} {
		p := three(t)
		if asked {
			p.is(10*60+2*20, 40, s, 12)
		}
		for _, c := range []struct {
			zone    int
			r       api.Reading
			changes bool
			want    int
		}{
			{1, reading(2, 7, 45), true, 270 + 40},
			{1, reading(2, 7, 45), false, 270 + 40}, // the same
			{1, reading(2, 7, 44), false, 270 + 40}, // less
			{1, reading(2, 7, -top), false, 270 + 40},
			{1, reading(2, 7, 46), true, 276 + 40},  // greater
			{1, reading(2, 7, 45), false, 276 + 40}, // what was there is less by now
			{1, reading(2, 6, 500), true, 276 + 40}, // of the same Minute, but not the last
			{1, reading(2, 8, 41), true, 246 + 40},  // likewise, and the last
			{2, reading(2, 8, 41), true, 246 + 40},  // another zone's, where it was not by then
			{2, reading(11, 0, 40), true, 246 + 20},
			{2, reading(10, 0, 39), true, 246},
			{2, reading(10, 0, 90), true, 246 + 50},
			{3, reading(3, 0, 400), true, 246 + 50},
			{1, reading(11, 0, 400), true, 246 + 50},
			{1, reading(0, 0, 41), true, 128 + 50},
			{1, reading(lastMinute, lastSeq, top), true, 128 + 50},
		} {
			p.put(c.changes, c.zone, c.r)
			if asked {
				p.is(c.want, 40, s, 12)
				p.have()
			}
		}
		p.is(128+50, 40, s, 12)
		p.have()
	}
}

// P13.1, L1, rule 3: readings that may not be are ErrArg, in zones that are not there ErrNone, and change nothing, whatever was asked by then.
func TestWrongReadings(t *testing.T) {
	wrong := []api.Reading{reading(-1, -1, -top-1), reading(end, lastSeq+1, top+1)}
	for _, n := range noTenths() {
		wrong = append(wrong, reading(0, 0, n), reading(2, 0, n), reading(lastMinute, lastSeq, n))
	}
	for _, n := range noGaps() { // which no Minute may be, either
		wrong = append(wrong, reading(n, 0, 500), reading(n, lastSeq, top))
	}
	for _, n := range []int{-1, lastSeq + 1, -lastSeq, 1<<32 + 1, math.MinInt, math.MaxInt} {
		wrong = append(wrong, reading(0, n, 500), reading(2, n, 500), reading(lastMinute, n, 500))
	}
	s := list(stay(1, 0, 10), on(2, 10))
	for _, asked := range []bool{false, true} {
		p := three(t)
		p.put(true, 1, reading(2, 0, 45))
		if asked {
			p.is(270+40, 40, s, 12)
		}
		for _, r := range wrong {
			for _, zone := range []int{1, 2, 3} {
				if changed, e := p.puts(zone, r); changed || e != api.ErrArg {
					t.Errorf("Put(%d, %v): %t, error %d", zone, r, changed, e)
				}
			}
			for _, zone := range []int{4, 0, -1, 257, math.MinInt, math.MaxInt} {
				for _, r := range []api.Reading{r, reading(2, 0, 90)} {
					if changed, e := p.puts(zone, r); changed || e != api.ErrNone {
						t.Errorf("Put(%d, %v): %t, error %d", zone, r, changed, e)
					}
				}
			}
			p.is(270+40, 40, s, 12)
		}
		p.have()
	}
}

// P13.1, L1: up to a minute: below 0, 0, ahead of the first stay, in the midst of one, where one ends and the next one begins, behind all.
func TestUpto(t *testing.T) {
	p := three(t)
	p.put(true, 1, reading(2, 0, 45))
	p.put(true, 2, reading(10, 0, 30))
	p.put(true, 2, reading(11, 0, 41))
	goes, ended := list(stay(1, 0, 10), stay(2, 10, 20), on(1, 20)), list(stay(1, 0, 10), stay(2, 10, 20), stay(1, 20, 24))
	for _, c := range []struct{ upto, goes, ended int }{
		{math.MinInt, 0, 0}, {math.MinInt + 1, 0, 0}, {-end, 0, 0}, {-2, 0, 0}, {-1, 0, 0}, {0, 0, 0},
		{1, 60, 60}, {2, 120, 120}, {3, 125, 125}, {8, 150, 150}, {9, 210, 210}, {10, 270, 270},
		{11, 270, 270}, {12, 271, 271}, {13, 291, 291}, {19, 411, 411}, {20, 431, 431},
		{21, 491, 491}, {23, 611, 611}, {24, 671, 671}, {25, 731, 671}, {100, 5231, 671},
		{lastMinute, 431 + 60*(end-21), 671}, {end, 431 + 60*(end-20), 671}, {end + 1, 431 + 60*(end-20), 671}, {1 << 40, 431 + 60*(end-20), 671}, {math.MaxInt, 431 + 60*(end-20), 671},
	} {
		p.is(c.goes, 40, goes, c.upto)
		p.is(c.ended, 40, ended, c.upto)
		p.charges(40, goes, c.upto)
		p.charges(40, ended, c.upto)
	}
	late := list(stay(1, 7, 9), on(2, 9))
	for _, c := range []struct{ upto, want int }{{-1, 0}, {0, 0}, {6, 0}, {7, 0}, {8, 5}, {9, 65}, {10, 85}, {11, 85}, {12, 86}, {13, 106}} {
		p.is(c.want, 40, late, c.upto)
	}
}

// P13.1, L1: stays that may be, wherever they were, and however they end.
func TestStays(t *testing.T) {
	p := three(t)
	p.put(true, 1, reading(2, 0, 45))
	for _, c := range []struct {
		want int
		s    []api.Stay
	}{
		{0, nil}, {0, list()},
		{270, list(on(1, 0))}, {270, list(stay(1, 0, 10))}, {270, list(stay(1, 0, 11))}, {210, list(stay(1, 0, 9))}, {210, list(on(1, 1))}, {270, list(stay(1, 0, math.MaxInt))},
		{200, list(on(2, 0))}, {0, list(on(3, 0))}, {0, list(on(4, 0))}, {0, list(on(math.MaxInt, 0))}, {0, list(stay(4, 0, 10))},
		{60, list(on(1, 9))}, {0, list(on(1, 10))}, {0, list(on(1, 11))}, {0, list(on(1, math.MaxInt))}, {0, list(stay(1, 10, 12))},
		{120 + 6*20 + 120, list(stay(1, 0, 2), stay(2, 2, 8), on(1, 8))},
		{120 + 120, list(stay(1, 0, 2), stay(4, 2, 8), on(1, 8))},
		{120 + 120, list(stay(1, 0, 2), stay(3, 2, 8), on(1, 8))},
		{120, list(stay(4, 0, 2), stay(17, 2, 8), on(1, 8))},
		{60, list(stay(1, 0, 1), on(4, 1))},
		{270, list(stay(1, 0, 1), stay(1, 1, 5), stay(1, 5, 8), on(1, 8))}, // of one zone, one behind the other
		{60 + 20 + 5 + 20 + 5 + 20 + 5, list(stay(1, 1, 2), stay(2, 2, 3), stay(1, 3, 4), stay(2, 4, 5), stay(1, 5, 6), stay(2, 6, 7), stay(1, 7, 8))},
	} {
		p.is(c.want, 40, c.s, 10)
		p.charges(40, c.s, 10)
	}
}

// P13.1, L1: stays that may not be have no exposure, also where what is wrong stands behind the minute.
func TestWrongStays(t *testing.T) {
	p := three(t)
	fine := stay(1, 2, 5)
	wrong := [][]api.Stay{
		list(on(0, 0)), list(on(-1, 0)), list(on(math.MinInt, 0)), list(stay(0, 0, 9)),
		list(on(1, -1)), list(stay(1, -1, 9)), list(on(1, math.MinInt)), list(stay(1, math.MinInt, math.MaxInt)),
		list(stay(1, 4, 4)), list(stay(1, 4, 3)), list(stay(1, 4, 0)), list(stay(1, 4, -2)), list(stay(1, 4, math.MinInt)), list(stay(1, 0, 0)), list(api.Stay{}),
		list(fine, stay(2, 6, 9)), list(fine, stay(2, 4, 9)), list(fine, on(2, 6)), list(fine, on(2, 4)), list(fine, on(2, 0)),
		list(fine, on(0, 5)), list(fine, stay(-3, 5, 9)), list(fine, stay(2, 5, 5)), list(fine, stay(2, 5, 4)),
		list(on(1, 2), on(2, 5)), list(on(1, 0), stay(2, 5, 9)), list(on(1, 0), on(1, -1)), list(stay(2, 5, 9), fine), list(fine, fine),
		list(fine, stay(2, 5, 90), stay(1, 90, 80)), list(fine, stay(2, 5, 90), on(0, 90)), list(fine, stay(2, 5, 90), on(1, 91)), list(fine, on(2, 5), on(1, 90)),
	}
	for _, s := range wrong {
		for _, upto := range []int{math.MinInt, -1, 0, 1, 3, 5, 7, 10, 89, 100, end, math.MaxInt} {
			for _, limit := range []int{-top, 40} {
				p.is(0, limit, s, upto)
			}
		}
	}
	p.is(3*60, 40, list(fine), 10)
	p.have()
}

// P13.1, L1: over a limit that is a tenth's least, its greatest, and any between; nothing over one less, one more, and whatever is none; several limits of one zone, each asked ahead of readings and behind them.
func TestLimits(t *testing.T) {
	p := three(t)
	s := list(stay(1, 0, 10), stay(2, 10, 14), stay(3, 14, 20), on(1, 20))
	ask := func() {
		t.Helper()
		for i, limit := range tenths() {
			p.charges(limit, s, 30)
			for _, limit := range []int{noTenths()[i%len(noTenths())], noTenths()[0], noTenths()[1]} {
				p.is(0, limit, s, 30)
				p.is(0, limit, list(on(4, 0)), 30)
			}
		}
	}
	ask()
	for i, r := range []api.Reading{reading(2, 0, 45), reading(12, 0, 46), reading(15, 0, 70), reading(3, 0, -top), reading(4, 0, top), reading(11, 0, top), reading(11, 0, top), reading(16, 0, 0), reading(24, 0, -182)} {
		for id := range 3 {
			p.puts(id+1, r)
		}
		if i%2 == 0 {
			ask()
		}
		p.charges(50+i, s, 30) // one that none asked yet
	}
	ask()
	for i := range 9 {
		p.charges(50+i, s, 30)
	}
	p.have()
}

// P13.1, L1: what is below the limit takes nothing away, and just at it there is nothing.
func TestAboutTheLimit(t *testing.T) {
	for _, limit := range []int{-top + 2, -100, -1, 0, 1, 40, top - 2} {
		p := having(t, zone(1, limit, 0))
		for minute, more := range []int{-1, 0, 1, 2, -2, 1} {
			p.put(true, 1, reading(minute, 0, limit+more))
		}
		for upto, want := range []int{0, 0, 0, 1, 3, 3, 4, 4, 4} {
			p.is(want, limit, list(on(1, 0)), upto)
		}
	}
}

// P13.1, L1: the warmest zone over the least limit: no stays have more than half of the most, as no minute is twice in them, and none is beyond 2^20.
func TestWarmest(t *testing.T) {
	p := having(t, zone(1, top, 0), zone(2, top, lastMinute), zone(3, -top, 5))
	many := []api.Stay{}
	for i := range 1 << 10 {
		many = append(many, stay(1+i%2, i<<10, (i+1)<<10))
	}
	for _, s := range [][]api.Stay{list(on(1, 0)), list(stay(1, 0, 5), on(2, 5)), list(stay(2, 0, 1<<19), stay(1, 1<<19, end)), many, list(stay(1, 0, 7), stay(1, 7, math.MaxInt)), list(stay(1, 0, lastMinute), stay(2, lastMinute, end), stay(1, end, 1<<40), on(2, 1<<40))} {
		p.is(1<<61, -top, s, end)
		p.is(1<<61, -top, s, math.MaxInt)
		p.is(1<<61-1<<41, -top, s, lastMinute)
		p.is(1<<41, -top, s, 1)
		p.is(0, -top, s, 0)
		p.is(1<<60, 0, s, end)
		p.is(0, top, s, end)
	}
	p.is(0, -top, list(on(3, 0)), end)
	p.is(1<<61-1<<41, -top, list(on(1, 1)), math.MaxInt)
	p.is(1<<41, -top, list(on(1, lastMinute)), math.MaxInt)
	p.is(0, -top, list(on(1, end)), math.MaxInt)
	p.is(0, -top, list(stay(1, end, end+9), on(2, end+9)), math.MaxInt)
}

// P13.1, L1: the air, and the readings, of zones that are there, and that are not.
func TestAirAndReadings(t *testing.T) {
	p := three(t)
	for _, r := range []api.Reading{reading(9, 3, 50), reading(2, 7, 45), reading(9, 2, 70), reading(9, 3, 49), reading(9, 3, 51)} {
		p.puts(1, r)
	}
	for _, c := range []struct{ minute, want int }{{math.MinInt, 100}, {-1, 100}, {0, 100}, {1, 100}, {2, 45}, {7, 45}, {8, 100}, {9, 51}, {14, 51}, {15, 100}, {end, 100}, {math.MaxInt, 100}} {
		if got, e := p.l.Air(1, c.minute); got != c.want || e != api.OK {
			t.Errorf("Air(1, %d): %d, error %d, not %d", c.minute, got, e, c.want)
		}
		for _, none := range []int{0, 4, -1, 257, 1<<32 + 1, math.MinInt, math.MaxInt} {
			if got, e := p.l.Air(none, c.minute); got != 0 || e != api.ErrNone {
				t.Errorf("Air(%d, %d): %d, error %d", none, c.minute, got, e)
			}
			if all := p.l.Readings(none); len(all) != 0 {
				t.Errorf("Readings(%d): %v", none, all)
			}
		}
	}
	if all := p.l.Readings(1); !slices.Equal(all, []api.Reading{reading(2, 7, 45), reading(9, 2, 70), reading(9, 3, 51)}) {
		t.Errorf("Readings(1): %v", all)
	}
	if all := p.l.Readings(2); len(all) != 0 {
		t.Errorf("Readings(2): %v", all)
	}
	p.have()
}

// P13.1, P13.2: whatever is done, in whatever order, the ledger tells what it tells by the words, behind each step.
func TestStepByStep(t *testing.T) {
	done := map[string]int{}
	for number := range 60 {
		d, p := dice(number), having(t)
		for range 90 {
			what := ""
			switch d.below(8) {
			case 0:
				z := zone(d.below(5), d.one(-20, 60, 100, top+1), d.one(0, 3, 5, 12, -1))
				what = fmt.Sprint("zone, ", p.addZone(byWords, z))
			case 1, 2, 3:
				r := reading(d.below(12)*3, d.below(2), d.below(100)-20)
				if d.below(12) == 0 {
					r.Seq = -1
				}
				changed, e := p.puts(1+d.below(4), r)
				what = fmt.Sprint("reading, ", changed, " ", e)
			default:
				s := d.stays()
				if d.below(12) == 0 {
					s = append(s, on(1, 3))
				}
				what = fmt.Sprint("exposure, ", p.charges(d.one(-50, -1, 20, 40, 41, 100, top+1), s, d.below(70)-5) > 0)
			}
			done[what]++
			p.have()
		}
	}
	for _, what := range []string{"zone, 0", "zone, 1", "zone, 6", "reading, true 0", "reading, false 0", "reading, false 1", "reading, false 5", "exposure, true", "exposure, false"} {
		if done[what] < 20 {
			t.Errorf("%s: just %d times", what, done[what])
		}
	}
}

// P13.1, P13.2: readings of all minutes, seqs and tenths, and stays that go through all of them.
func TestFar(t *testing.T) {
	var d dice
	for number := range 12 {
		p := having(t, zone(1, d.below(2*top)-top, gaps()[number%len(gaps())]), zone(2, top, 70000), zone(3, -top, 3))
		for range 12 {
			p.put(true, 1+d.below(3), d.far())
		}
		for range 4 {
			a, b, c := d.below(1<<19), d.below(1<<19), d.below(end)
			s := list(stay(1, a, a+b+1), stay(2, a+b+1, a+b+2+c), on(1+2*d.below(2), a+b+2+c))
			p.charges(d.below(2*top)-top, s, d.one(end, math.MaxInt, d.below(end)))
			p.put(true, 1+d.below(3), d.far())
			p.charges(-top, s, end)
		}
		p.have()
	}
}

// cut are the stays from a minute on.
func cut(l []api.Stay, minute int) []api.Stay {
	rest := []api.Stay{}
	for _, s := range l {
		if s.To == -1 || s.To > minute {
			s.From = max(s.From, minute)
			rest = append(rest, s)
		}
	}
	return rest
}

// P13.2: an exposure is that up to any minute, and that of the stays from there on, added; and never less up to a later minute.
func TestMinuteByMinute(t *testing.T) {
	var d dice
	more, parts := 0, 0
	for number := range 60 {
		p := three(t)
		for range number % 20 {
			p.puts(1+d.below(3), d.few())
		}
		s, limit := d.stays(), d.below(150)-60
		for upto := -2; upto < 70; upto++ {
			whole := p.charges(limit, s, upto)
			if next := p.charges(limit, s, upto+1); next < whole {
				t.Fatalf("up to %d: %d, but up to %d: %d", upto, whole, upto+1, next)
			} else if next > whole {
				more++
			}
			for minute := 0; minute <= upto; minute++ {
				ahead, behind := p.l.Exposure(limit, s, minute), p.l.Exposure(limit, cut(s, minute), upto)
				if whole != ahead+behind {
					t.Fatalf("of %v up to %d: %d, but up to %d %d, and from there on %d", s, upto, whole, minute, ahead, behind)
				}
				if ahead > 0 && behind > 0 {
					parts++
				}
			}
		}
	}
	if more < 1000 || parts < 10000 {
		t.Errorf("just %d became more, and just %d were of two parts", more, parts)
	}
}

// P13.2: up to a later minute no exposure is less, at the ends either, whoever goes through whatever.
func TestNeverLess(t *testing.T) {
	var d dice
	for number := range 12 {
		p := having(t, zone(1, top, 5), zone(2, -top, 9), zone(3, 30, 70000))
		for range number {
			p.puts(1+d.below(3), d.far())
			p.puts(1+d.below(3), d.few())
		}
		for _, s := range [][]api.Stay{d.stays(), list(on(1, 0)), list(stay(3, 5, 9), stay(2, 9, 1<<19), on(1, 1<<19)), list(stay(1, 9, end), stay(2, end, end+9), on(3, end+9))} {
			for _, limit := range tenths() {
				was := 0
				for _, upto := range ends() {
					is := p.l.Exposure(limit, s, upto)
					if is < was {
						t.Fatalf("of %v over %d up to %d: %d, less than %d", s, limit, upto, is, was)
					}
					was = is
				}
			}
		}
	}
}

// came is a reading in a zone.
type came struct {
	zone int
	r    api.Reading
}

// P13.2: readings in any order, each as often as one likes, with exposures of several limits asked between, and none, lead to the same.
func TestAnyOrder(t *testing.T) {
	for number := range 12 {
		d := dice(number)
		all := []came{}
		for range 30 {
			all = append(all, came{1 + d.below(3), d.few()}, came{1 + d.below(3), d.few()})
		}
		limits, s := []int{-50, 0, 20, 41, 80}, d.stays()
		first := three(t)
		for _, c := range all {
			first.puts(c.zone, c.r)
		}
		for asked := range 6 {
			p := three(t)
			for i, c := range shuffled(&d, slices.Concat(all, all[d.below(len(all)):])) {
				p.l.Put(c.zone, c.r)
				if asked > 0 && i%asked == 0 {
					p.l.Exposure(d.one(limits[:asked]...), d.stays(), d.below(60))
					p.l.Exposure(top+1, d.stays(), d.below(60))
					p.l.Air(d.below(5), d.below(60))
					p.l.Readings(d.below(5))
				}
			}
			p.w = first.w
			p.have()
			for _, limit := range limits {
				for upto := range 60 {
					p.charges(limit, s, upto)
				}
			}
		}
	}
}

// P13.2: what is asked hangs not on what was asked ahead of it.
func TestAskedAhead(t *testing.T) {
	var d dice
	for range 10 {
		p := three(t)
		for range 40 {
			p.puts(1+d.below(3), d.few())
		}
		for range 200 {
			p.charges(d.below(12)*10-50, d.stays(), d.below(70)-5)
		}
		p.have()
	}
}

// spoil writes into a list, and what lies behind it in its memory.
func spoil[T any](l []T, with T) {
	l = l[:cap(l)]
	for i := range l {
		l[i] = with
	}
}

// Rule 4: stays that are handed in stay as they were, what lies behind them in their memory neither; and they are not kept.
func TestStaysStay(t *testing.T) {
	p := three(t)
	p.put(true, 1, reading(2, 0, 45))
	for _, s := range [][]api.Stay{nil, list(on(1, 0)), list(stay(1, 0, 9)), list(stay(1, 0, 4), on(2, 4)), list(stay(1, 0, 4), stay(2, 4, 8), stay(1, 8, 20)), list(stay(1, 0, 0), on(2, 4)), list(on(0, 4))} {
		for _, upto := range []int{-1, 0, 2, 4, 6, 8, 9, 10, 30, end} {
			memory := append(slices.Clone(s), on(2, 77), stay(9, 9, 9))
			was := slices.Clone(memory)
			want := p.charges(40, memory[:len(s)], upto)
			if !slices.Equal(memory, was) {
				t.Fatalf("%v became %v", was, memory)
			}
			spoil(memory, on(2, 0))
			p.is(want, 40, s, upto)
			// What lies behind a list makes no difference either.
			p.is(want, 40, memory[:copy(memory, s)], upto)
		}
	}
	p.have()
}

// Rule 4: readings that are answered, spoilt, change nothing, and nothing that comes later changes them.
func TestReadingsAreNew(t *testing.T) {
	var d dice
	for n := range 20 {
		p := three(t)
		for range n {
			p.puts(1+d.below(2), d.few())
		}
		s := list(stay(1, 0, 20), on(2, 20))
		p.charges(20, s, 60)
		first, other, want := p.l.Readings(1), p.l.Readings(1), p.w[1].all()
		spoil(p.l.Readings(1), reading(0, 0, 900))
		spoil(other, reading(0, 0, 901))
		if !slices.Equal(first, want) {
			t.Fatalf("an answer became %v", first)
		}
		p.have()
		p.charges(20, s, 60)
		p.charges(21, s, 60)
		for _, r := range []api.Reading{reading(0, 9, 300), reading(0, 9, 301), reading(7, 1, 400), reading(45, 0, -10)} {
			p.put(true, 1, r)
		}
		if !slices.Equal(first, want) {
			t.Fatalf("an answer became %v", first)
		}
		p.have()
		p.charges(20, s, 60)
	}
}

// Two ledgers have nothing of one another; nor has one zone anything of another one, also if they began alike.
func TestApart(t *testing.T) {
	a, b := having(t, zone(1, 100, 5), zone(2, 100, 5)), having(t, zone(1, 100, 5))
	for _, upto := range []int{0, 10} {
		a.is(60*upto, 40, list(on(1, 0)), upto)
		a.is(60*upto, 40, list(on(2, 0)), upto)
		b.is(60*upto, 40, list(on(1, 0)), upto)
	}
	a.put(true, 1, reading(2, 0, 45))
	a.is(270, 40, list(on(1, 0)), 10)
	a.is(600, 40, list(on(2, 0)), 10)
	b.is(600, 40, list(on(1, 0)), 10)
	a.is(500, 50, list(on(2, 0)), 10)
	a.is(200, 50, list(on(1, 0)), 10)
	b.addZone(api.OK, zone(2, 60, 0))
	b.put(true, 2, reading(0, 0, 41))
	a.have()
	b.have()
}

// P13.2: many readings, one behind the other, and exposures over several limits behind each; to add up all anew each time would take far too long.
func TestManyAsked(t *testing.T) {
	p := having(t, zone(1, 100, 3), zone(2, 60, 0))
	limits, want := []int{20, 40, 41}, []int{0, 0, 0}
	s := list(stay(1, 0, 1<<19), on(2, 1<<19))
	for i := range 1 << 15 {
		r := reading(16*i, 0, i%90)
		if changed, e := p.l.Put(1, r); !changed || e != api.OK {
			t.Fatalf("Put(%v): %t, error %d", r, changed, e)
		}
		for n, limit := range limits {
			p.is(want[n], limit, s, r.Minute)
			want[n] += 4*max(0, r.Tenths-limit) + 12*(100-limit)
		}
	}
	for n, limit := range limits {
		p.is(want[n], limit, s, 1<<19)
		p.is(want[n]+(60-limit)<<19, limit, s, end)
	}
}

// P1, P2: each call ends, at whatever it is given, and answers the same again.
func TestAgain(t *testing.T) {
	edges := slices.Concat(ids(), noIDs(), tenths(), noTenths(), ends(), noGaps())
	ask := func() (told []string) {
		l := ledger.New()
		l.AddZone(zone(1, 100, 5))
		for i, n := range edges {
			for _, other := range []int{edges[len(edges)-1-i], edges[(i*7+3)%len(edges)], 1, 40} {
				e, f, g := l.AddZone(zone(n, other, 5)), l.AddZone(zone(n, 100, other)), l.AddZone(zone(other, 60, n))
				changed, h := l.Put(1, reading(n, i, other))
				later, k := l.Put(n, reading(other, 1, 50))
				air, m := l.Air(n, other)
				told = append(told, fmt.Sprint(e, f, g, changed, h, later, k, air, m, l.Readings(n)))
				told = append(told, fmt.Sprint(l.Exposure(n, list(on(1, 0)), other), l.Exposure(40, list(stay(1, n, other)), end), l.Exposure(40, list(stay(n, 0, other), on(1, other)), end), l.Exposure(other, list(stay(1, 0, 9), on(2, 9)), n)))
			}
		}
		return told
	}
	first := ask()
	for range 3 {
		if !slices.Equal(ask(), first) {
			t.Fatal("asked again, another answer")
		}
	}
}
