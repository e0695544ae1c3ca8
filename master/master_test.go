package master_test

import (
	"fmt"
	"math"
	"slices"
	"testing"

	"hoarfrost/api"
	"hoarfrost/master"
)

// top and most are the ends of what a tenth, and a budget, may be.
const (
	top  = 1 << 40
	most = 1 << 62
)

// field is a number of a thing, with those that it may be, and those that it may not be; some would be, if they wrapped round.
type field[R any] struct {
	name     string
	of       func(r *R) *int
	may, not []int
}

// side is one of both kinds of things that a master has, zones or products, so that all is asked of the one that is asked of the other one.
type side[R comparable] struct {
	fields []field[R] // the first one is the ID
	may    []R        // things that may be, that differ in all but the ID
	mayBe  func(r R) bool
	add    func(m *master.Master, r R) api.Errno
	row    func(m *master.Master, id int) (R, api.Errno)
	all    func(m *master.Master) []R
}

func ids() []int { return []int{1, 2, 8, 15, 16} }

func noIDs() []int {
	return []int{0, -1, 17, -2, 18, -16, 64, 255, 256, 257, 1<<16 + 1, 1<<32 + 1, -1<<32 + 1, math.MinInt, math.MinInt + 1, math.MaxInt - 1, math.MaxInt}
}

func tenths() []int { return []int{0, 1, -1, 52, -180, top - 1, -top + 1, top, -top} }

func noTenths() []int {
	return []int{top + 1, -top - 1, top + 2, 2 * top, -2 * top, math.MinInt, math.MinInt + 1, math.MaxInt - 1, math.MaxInt}
}

func minutes() []int { return []int{0, 1, 60, 65536, 1<<20 - 2, 1<<20 - 1} }

func noMinutes() []int {
	return []int{-1, 1 << 20, -2, 1<<20 + 1, -1<<20 + 1, 1<<32 + 1, -1<<32 + 1, math.MinInt, math.MinInt + 1, math.MaxInt - 1, math.MaxInt}
}

func zones() side[api.Zone] {
	return side[api.Zone]{
		fields: []field[api.Zone]{
			{"ID", func(z *api.Zone) *int { return &z.ID }, ids(), noIDs()},
			{"Worst", func(z *api.Zone) *int { return &z.Worst }, tenths(), noTenths()},
			{"Gap", func(z *api.Zone) *int { return &z.Gap }, minutes(), noMinutes()},
			{"Room", func(z *api.Zone) *int { return &z.Room }, []int{0, 1, 500, 1<<20 - 1, 1 << 20}, []int{-1, 1<<20 + 1, -2, 1<<20 + 2, -1 << 20, 1<<32 + 1, -1<<32 + 1, math.MinInt, math.MinInt + 1, math.MaxInt - 1, math.MaxInt}},
			{"Ajar", func(z *api.Zone) *int { return &z.Ajar }, minutes(), noMinutes()},
		},
		may: []api.Zone{
			{ID: 1},
			{ID: 1, Worst: 100, Gap: 5, Room: 40, Dock: true, Ajar: 6},
			{ID: 1, Worst: -250, Gap: 30, Room: 1000, Ajar: 12},
			{ID: 1, Worst: top, Gap: 1<<20 - 1, Room: 1 << 20, Dock: true, Ajar: 1<<20 - 1},
			{ID: 1, Worst: -top, Gap: 1<<20 - 2, Room: 1<<20 - 1, Ajar: 1<<20 - 2},
		},
		mayBe: func(z api.Zone) bool {
			if z.ID < 1 || z.ID > 16 || z.Worst < -1099511627776 || z.Worst > 1099511627776 {
				return false
			}
			return z.Gap >= 0 && z.Gap <= 1048575 && z.Room >= 0 && z.Room <= 1048576 && z.Ajar >= 0 && z.Ajar <= 1048575
		},
		add: (*master.Master).AddZone,
		row: (*master.Master).Zone,
		all: (*master.Master).Zones,
	}
}

func products() side[api.Product] {
	return side[api.Product]{
		fields: []field[api.Product]{
			{"ID", func(p *api.Product) *int { return &p.ID }, ids(), noIDs()},
			{"Limit", func(p *api.Product) *int { return &p.Limit }, tenths(), noTenths()},
			{"Budget", func(p *api.Product) *int { return &p.Budget }, []int{0, 1, 100, 1 << 32, 1 << 61, most - 1, most}, []int{-1, most + 1, -2, most + 2, -most, math.MinInt, math.MinInt + 1, math.MaxInt - 1, math.MaxInt}},
		},
		may: []api.Product{
			{ID: 1},
			{ID: 1, Limit: 40, Budget: 100},
			{ID: 1, Limit: -180, Budget: 1},
			{ID: 1, Limit: top, Budget: most},
			{ID: 1, Limit: -top, Budget: most - 1},
		},
		mayBe: func(p api.Product) bool {
			if p.ID < 1 || p.ID > 16 || p.Limit < -1099511627776 || p.Limit > 1099511627776 {
				return false
			}
			return p.Budget >= 0 && p.Budget <= 4611686018427387904
		},
		add: (*master.Master).AddProduct,
		row: (*master.Master).Product,
		all: (*master.Master).Products,
	}
}

// with is a thing with another number in a field.
func with[R any](r R, f field[R], n int) R {
	*f.of(&r) = n
	return r
}

func (s side[R]) id(r R) int { return *s.fields[0].of(&r) }

func (s side[R]) withID(r R, id int) R { return with(r, s.fields[0], id) }

// words is one side of a master by the words: its things stand as they came, and all of them are gone through each time.
type words[R comparable] struct {
	side side[R]
	rows []R
}

func (w *words[R]) add(r R) api.Errno {
	if !w.side.mayBe(r) {
		return api.ErrArg
	}
	for _, other := range w.rows {
		if w.side.id(other) == w.side.id(r) {
			return api.ErrTwice
		}
	}
	w.rows = append(w.rows, r)
	return api.OK
}

func (w *words[R]) row(id int) (r R, e api.Errno) {
	for _, other := range w.rows {
		if w.side.id(other) == id {
			return other, api.OK
		}
	}
	return r, api.ErrNone
}

// all takes the one of the least ID that is left each time.
func (w *words[R]) all() (l []R) {
	for left := slices.Clone(w.rows); len(left) > 0; {
		least := 0
		for i, r := range left {
			if w.side.id(r) < w.side.id(left[least]) {
				least = i
			}
		}
		l = append(l, left[least])
		left = slices.Delete(left, least, least+1)
	}
	return l
}

// asked are IDs that tell masters apart: all that there may be, and those beyond.
func asked() []int {
	l := noIDs()
	for id := range 16 {
		l = append(l, id+1)
	}
	return l
}

func wantAdd[R comparable](t *testing.T, m *master.Master, s side[R], r R, want api.Errno) {
	t.Helper()
	if e := s.add(m, r); e != want {
		t.Fatalf("add %+v: error %d, not %d", r, e, want)
	}
}

func wantRow[R comparable](t *testing.T, m *master.Master, s side[R], id int, want R, wantE api.Errno) {
	t.Helper()
	if r, e := s.row(m, id); r != want || e != wantE {
		t.Fatalf("the one of %d: %+v, error %d, not %+v, error %d", id, r, e, want, wantE)
	}
}

func wantAll[R comparable](t *testing.T, m *master.Master, s side[R], want ...R) {
	t.Helper()
	if l := s.all(m); !slices.Equal(l, want) {
		t.Fatalf("all: %+v, not %+v", l, want)
	}
}

// wantWords wants one side of a master to be what it is by the words, whatever is asked of it.
func wantWords[R comparable](t *testing.T, m *master.Master, w *words[R]) {
	t.Helper()
	wantAll(t, m, w.side, w.all()...)
	for _, id := range asked() {
		r, e := w.row(id)
		wantRow(t, m, w.side, id, r, e)
	}
}

// told is a master to which things were added that may be, and that side of it by the words.
func told[R comparable](t *testing.T, s side[R], l ...R) (*master.Master, *words[R]) {
	t.Helper()
	m, w := master.New(), &words[R]{side: s}
	for _, r := range l {
		wantAdd(t, m, s, r, api.OK)
		w.rows = append(w.rows, r)
	}
	return m, w
}

// sixteen are things of all IDs, rising, each one unlike the one beside it.
func (s side[R]) sixteen() (l []R) {
	for i := range 16 {
		l = append(l, s.withID(s.may[i%len(s.may)], i+1))
	}
	return l
}

// wrong are things that may not be, each one for a single number, of an ID that there is, unless that is the number.
func (s side[R]) wrong(id int) (l []R) {
	for _, r := range s.may {
		for _, f := range s.fields {
			for _, n := range f.not {
				l = append(l, with(s.withID(r, id), f, n))
			}
		}
	}
	return l
}

// dice tell numbers that look like any, the same in each run.
type dice uint64

func (d *dice) below(n int) int {
	*d = *d*6364136223846793005 + 1442695040888963407
	x := uint64(*d^*d>>31) * 0x9e3779b97f4a7c15
	return int((x >> 1) % uint64(n))
}

// shuffled are the same things in another order.
func shuffled[R any](d *dice, l []R) []R {
	l = slices.Clone(l)
	for i := len(l) - 1; i > 0; i-- {
		j := d.below(i + 1)
		l[i], l[j] = l[j], l[i]
	}
	return l
}

// thing is any one, that may be in most cases.
func thing[R comparable](d *dice, s side[R]) R {
	r := s.withID(s.may[d.below(len(s.may))], 1+d.below(16))
	for _, f := range s.fields[1:] {
		if d.below(2) == 0 {
			r = with(r, f, f.may[d.below(len(f.may))])
		}
	}
	if d.below(4) == 0 {
		f := s.fields[d.below(len(s.fields))]
		r = with(r, f, f.not[d.below(len(f.not))])
	}
	return r
}

// P10.1, M1: a master without any has none, of no ID.
func TestWithoutAny(t *testing.T) {
	m := master.New()
	if m == nil {
		t.Fatal("New: nil")
	}
	wantWords(t, m, &words[api.Zone]{side: zones()})
	wantWords(t, m, &words[api.Product]{side: products()})
}

// P10.1, M1, rule 8: a nil master.
func TestNil(t *testing.T) {
	t.Run("zones", func(t *testing.T) { testNil(t, zones()) })
	t.Run("products", func(t *testing.T) { testNil(t, products()) })
}

func testNil[R comparable](t *testing.T, s side[R]) {
	var m *master.Master
	var none R
	for _, r := range slices.Concat(s.sixteen(), s.wrong(1), []R{none}) {
		wantAdd(t, m, s, r, api.ErrArg)
	}
	for _, id := range asked() {
		wantRow(t, m, s, id, none, api.ErrArg)
	}
	wantAll(t, m, s)
}

// P10.1, M1: a thing that may be is added, and told just as it is, at all ends of its numbers.
func TestRight(t *testing.T) {
	t.Run("zones", func(t *testing.T) { testRight(t, zones()) })
	t.Run("products", func(t *testing.T) { testRight(t, products()) })
}

func testRight[R comparable](t *testing.T, s side[R]) {
	for _, r := range s.may {
		for _, f := range s.fields {
			for _, n := range f.may {
				m, w := told(t, s, with(r, f, n))
				wantWords(t, m, w)
			}
		}
	}
}

// P10.1, M1, rule 3: a thing that may not be, for a single number, is an error, and changes nothing, whether one of its ID is there or not.
func TestWrong(t *testing.T) {
	t.Run("zones", func(t *testing.T) { testWrong(t, zones()) })
	t.Run("products", func(t *testing.T) { testWrong(t, products()) })
}

func testWrong[R comparable](t *testing.T, s side[R]) {
	for _, there := range [][]R{nil, s.sixteen()[2:5], s.sixteen()} {
		m, w := told(t, s, there...)
		for _, id := range []int{1, 2, 3, 4, 16} {
			for _, r := range s.wrong(id) {
				wantAdd(t, m, s, r, api.ErrArg)
				wantWords(t, m, w)
			}
		}
	}
}

// P10.1, M1: zones of all ends of their numbers, right and wrong, with Dock and without.
func TestAllEndsOfZones(t *testing.T) {
	s, count := zones(), 0
	for _, id := range []int{math.MinInt, 0, 1, 16, 17, math.MaxInt} {
		for _, worst := range []int{-top - 1, -top, top, top + 1} {
			for _, gap := range []int{-1, 0, 1<<20 - 1, 1 << 20} {
				for _, room := range []int{-1, 0, 1 << 20, 1<<20 + 1} {
					for _, ajar := range []int{-1, 0, 1<<20 - 1, 1 << 20} {
						for _, dock := range []bool{false, true} {
							z := api.Zone{ID: id, Worst: worst, Gap: gap, Room: room, Dock: dock, Ajar: ajar}
							m, w := master.New(), &words[api.Zone]{side: s}
							wantAdd(t, m, s, z, w.add(z))
							wantWords(t, m, w)
							count += len(w.rows)
						}
					}
				}
			}
		}
	}
	if count != 64 {
		t.Errorf("%d zones that may be", count)
	}
}

// P10.1, M1: products likewise.
func TestAllEndsOfProducts(t *testing.T) {
	s, count := products(), 0
	for _, id := range []int{math.MinInt, 0, 1, 16, 17, math.MaxInt} {
		for _, limit := range []int{math.MinInt, -top - 1, -top, top, top + 1, math.MaxInt} {
			for _, budget := range []int{math.MinInt, -1, 0, most, most + 1, math.MaxInt} {
				p := api.Product{ID: id, Limit: limit, Budget: budget}
				m, w := master.New(), &words[api.Product]{side: s}
				wantAdd(t, m, s, p, w.add(p))
				wantWords(t, m, w)
				count += len(w.rows)
			}
		}
	}
	if count != 8 {
		t.Errorf("%d products that may be", count)
	}
}

// P10.1, M1, P10.2: a second one of an ID, the same or another one, is an error, and the first one stays; one that may not be is ErrArg there, too.
func TestTwice(t *testing.T) {
	t.Run("zones", func(t *testing.T) { testTwice(t, zones()) })
	t.Run("products", func(t *testing.T) { testTwice(t, products()) })
}

func testTwice[R comparable](t *testing.T, s side[R]) {
	for _, id := range ids() {
		for _, first := range s.may {
			first = s.withID(first, id)
			m, w := told(t, s, first)
			for _, second := range s.may {
				second = s.withID(second, id)
				for range 2 {
					wantAdd(t, m, s, second, api.ErrTwice)
					wantWords(t, m, w)
				}
				for _, f := range s.fields[1:] {
					for _, n := range f.may {
						wantAdd(t, m, s, with(second, f, n), api.ErrTwice)
					}
				}
			}
			for _, r := range s.wrong(id) {
				wantAdd(t, m, s, r, api.ErrArg)
			}
			wantWords(t, m, w)
		}
	}
}

// P10.1, M1: a zone that differs from the one of its ID just in its Dock is a second one, too.
func TestDockTwice(t *testing.T) {
	s := zones()
	for _, z := range s.may {
		m, w := told(t, s, z)
		z.Dock = !z.Dock
		wantAdd(t, m, s, z, api.ErrTwice)
		wantWords(t, m, w)
	}
}

// P10.1, M1, P10.2: all sixteen, in many orders: all of them are there, rising, behind each step, and no other one has room.
func TestSixteen(t *testing.T) {
	t.Run("zones", func(t *testing.T) { testSixteen(t, zones()) })
	t.Run("products", func(t *testing.T) { testSixteen(t, products()) })
}

func testSixteen[R comparable](t *testing.T, s side[R]) {
	l := s.sixteen()
	falling := slices.Clone(l)
	slices.Reverse(falling)
	halves := slices.Concat(l[8:], l[:8])
	d := dice(10)
	orders := [][]R{l, falling, halves}
	for range 60 {
		orders = append(orders, shuffled(&d, l))
	}
	for _, order := range orders {
		m, w := told(t, s)
		for _, r := range order {
			wantAdd(t, m, s, r, w.add(r))
			wantWords(t, m, w)
		}
		wantAll(t, m, s, l...)
		for _, r := range order {
			wantAdd(t, m, s, r, api.ErrTwice)
		}
		for _, id := range noIDs() {
			wantAdd(t, m, s, s.withID(l[0], id), api.ErrArg)
		}
		wantWords(t, m, w)
	}
}

// P10.1, M1: IDs that came falling, with errors between, are told rising.
func TestRising(t *testing.T) {
	t.Run("zones", func(t *testing.T) { testRising(t, zones()) })
	t.Run("products", func(t *testing.T) { testRising(t, products()) })
}

func testRising[R comparable](t *testing.T, s side[R]) {
	l := s.sixteen()
	m, w := told(t, s, l[15], l[9], l[8])
	wantAll(t, m, s, l[8], l[9], l[15])
	for _, r := range []R{l[8], s.withID(l[3], 9), s.withID(l[3], 16)} {
		wantAdd(t, m, s, r, api.ErrTwice)
	}
	for _, r := range s.wrong(5) {
		wantAdd(t, m, s, r, api.ErrArg)
	}
	wantWords(t, m, w)
	for _, r := range []R{l[4], l[1], l[0], l[12]} {
		wantAdd(t, m, s, r, w.add(r))
	}
	wantAll(t, m, s, l[0], l[1], l[4], l[8], l[9], l[12], l[15])
	wantWords(t, m, w)
}

// P10.1, M1: zones and products of the same IDs stand side by side; neither side knows of the other one.
func TestSideBySide(t *testing.T) {
	z, p := zones(), products()
	m := master.New()
	allZones, allProducts := &words[api.Zone]{side: z}, &words[api.Product]{side: p}
	for i := range 16 {
		zone, product := z.sixteen()[i], p.sixteen()[15-i]
		wantAdd(t, m, z, zone, allZones.add(zone))
		wantWords(t, m, allZones)
		wantWords(t, m, allProducts)
		wantAdd(t, m, p, product, allProducts.add(product))
		wantWords(t, m, allZones)
		wantWords(t, m, allProducts)
	}
	wantAdd(t, m, z, z.may[0], api.ErrTwice)
	wantAdd(t, m, p, p.may[0], api.ErrTwice)
	alone, w := told(t, p, p.sixteen()...)
	wantWords(t, alone, w)
	wantWords(t, alone, &words[api.Zone]{side: z})
}

// P10.1, P10.2: what was added without an error is there as it was, and nothing else is, behind each of many steps on both sides.
func TestStepByStep(t *testing.T) {
	added, twice, wrong := 0, 0, 0
	count := func(e api.Errno) {
		switch e {
		case api.OK:
			added++
		case api.ErrTwice:
			twice++
		case api.ErrArg:
			wrong++
		}
	}
	for number := range 200 {
		d := dice(number)
		m := master.New()
		z, p := &words[api.Zone]{side: zones()}, &words[api.Product]{side: products()}
		for range 50 {
			if d.below(2) == 0 {
				r := thing(&d, z.side)
				e := z.add(r)
				wantAdd(t, m, z.side, r, e)
				count(e)
			} else {
				r := thing(&d, p.side)
				e := p.add(r)
				wantAdd(t, m, p.side, r, e)
				count(e)
			}
			wantWords(t, m, z)
			wantWords(t, m, p)
		}
	}
	if min(added, twice, wrong) < 1500 {
		t.Errorf("just %d that were added, %d twice, %d wrong", added, twice, wrong)
	}
}

// P10.2: what was asked between makes no difference.
func TestAskedBetween(t *testing.T) {
	t.Run("zones", func(t *testing.T) { testAskedBetween(t, zones()) })
	t.Run("products", func(t *testing.T) { testAskedBetween(t, products()) })
}

func testAskedBetween[R comparable](t *testing.T, s side[R]) {
	for number := range 20 {
		d := dice(number)
		quiet, loud := master.New(), master.New()
		for range 30 {
			r := thing(&d, s)
			for _, id := range asked() {
				s.row(loud, id)
			}
			s.all(loud)
			wantAdd(t, loud, s, r, s.add(quiet, r))
		}
		wantAll(t, loud, s, s.all(quiet)...)
		for _, id := range asked() {
			r, e := s.row(quiet, id)
			wantRow(t, loud, s, id, r, e)
		}
	}
}

// Rule 4: a list that is answered is new: spoilt, and written behind its length, it changes neither the master nor another answer, and a later step doesn't change it.
func TestAnswersAreNew(t *testing.T) {
	t.Run("zones", func(t *testing.T) { testAnswersAreNew(t, zones()) })
	t.Run("products", func(t *testing.T) { testAnswersAreNew(t, products()) })
}

func testAnswersAreNew[R comparable](t *testing.T, s side[R]) {
	m, w := told(t, s)
	for i, r := range shuffled(new(dice), s.sixteen()) {
		first, want := s.all(m), w.all()
		spoil(s, s.all(m), i)
		if !slices.Equal(first, want) {
			t.Errorf("another answer became %+v", first)
		}
		wantWords(t, m, w)
		wantAdd(t, m, s, r, w.add(r))
		if !slices.Equal(first, want) {
			t.Errorf("an answer became %+v", first)
		}
		spoil(s, first, i)
		wantWords(t, m, w)
	}
	one, _ := s.row(m, 3)
	*s.fields[0].of(&one) = 4
	wantWords(t, m, w)
}

// spoil writes into all memory of a list.
func spoil[R comparable](s side[R], l []R, n int) {
	other := s.withID(s.may[1], n)
	_ = append(l, other)
	l = l[:cap(l)]
	for i := range l {
		l[i] = other
	}
}

// Rule 4: a thing that is handed in is not kept: another one in its place changes nothing, and it isn't written into.
func TestNothingIsKept(t *testing.T) {
	t.Run("zones", func(t *testing.T) { testNothingIsKept(t, zones()) })
	t.Run("products", func(t *testing.T) { testNothingIsKept(t, products()) })
}

func testNothingIsKept[R comparable](t *testing.T, s side[R]) {
	l := s.sixteen()
	m, w := master.New(), &words[R]{side: s}
	for i := range l {
		wantAdd(t, m, s, l[i], w.add(s.sixteen()[i]))
	}
	if !slices.Equal(l, s.sixteen()) {
		t.Errorf("what was handed in became %+v", l)
	}
	clear(l)
	wantWords(t, m, w)
}

// Two masters have nothing of one another.
func TestApart(t *testing.T) {
	s := zones()
	l := s.sixteen()
	a, wa := told(t, s, l[0], l[4])
	b, wb := told(t, s, s.withID(l[1], 1), l[7])
	wantAdd(t, a, s, l[7], wa.add(l[7]))
	wantAdd(t, b, s, l[4], wb.add(l[4]))
	wantAdd(t, master.New(), s, l[9], api.OK)
	wantWords(t, a, wa)
	wantWords(t, b, wb)
	wantWords(t, master.New(), &words[api.Product]{side: products()})
}

// P1, P2: each call ends, at whatever it is given, and answers the same again, also where the same came in other masters.
func TestAgain(t *testing.T) {
	edges := []int{math.MinInt, math.MinInt + 1, -most, -top - 1, -top, -1, 0, 1, 2, 15, 16, 17, 1<<20 - 1, 1 << 20, 1<<20 + 1, 1<<32 + 1, top, top + 1, most, most + 1, math.MaxInt - 1, math.MaxInt}
	ask := func() (told []string) {
		m := master.New()
		for _, id := range edges {
			for _, n := range edges {
				for _, o := range edges {
					told = append(told, fmt.Sprint(m.AddZone(api.Zone{ID: id, Worst: n, Gap: o, Room: n, Ajar: o, Dock: n > o}), m.AddProduct(api.Product{ID: id, Limit: n, Budget: o})))
				}
			}
			zone, e := m.Zone(id)
			product, other := m.Product(id)
			told = append(told, fmt.Sprint(zone, e, product, other, m.Zones(), m.Products()))
		}
		return told
	}
	first := ask()
	for range 3 {
		if !slices.Equal(ask(), first) {
			t.Fatal("asked again, another answer")
		}
	}
}
