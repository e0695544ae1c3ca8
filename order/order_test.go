package order_test

import (
	"fmt"
	"math"
	"slices"
	"testing"

	"hoarfrost/api"
	"hoarfrost/order"
)

// The ends that the words name.
const (
	lastProduct = 16
	maxUnits    = 1 << 20
	maxOrders   = 64
)

// The names of what is done to an order.
const (
	allocate = "Allocate"
	free     = "Free"
	ship     = "Ship"
)

func names() []string { return []string{allocate, free, ship} }

// of is an order.
func of(id, product, units, state int) api.Order {
	return api.Order{ID: id, Product: product, Units: units, State: state}
}

func list(l ...api.Order) []api.Order { return l }

// edges are numbers at the ends, and some that would be others, if they wrapped round.
func edges() []int {
	return []int{math.MinInt, math.MinInt + 1, -1 << 32, -1<<32 + 1, -2, -1, 0, 1, 2, 3, 15, 16, 17, 63, 64, 65, 256, 257, maxUnits - 1, maxUnits, maxUnits + 1, 1 << 32, 1<<32 + 1, 1<<32 + 2, 1 << 62, math.MaxInt - 1, math.MaxInt}
}

// noProducts, noUnits and noStates are numbers that none may have.
func noProducts() []int {
	return []int{math.MinInt, math.MinInt + 1, -1 << 32, -1<<32 + 1, -16, -2, -1, 0, lastProduct + 1, lastProduct + 2, 64, 256, 257, 1 << 32, 1<<32 + 1, math.MaxInt - 1, math.MaxInt}
}

func noUnits() []int {
	return []int{math.MinInt, math.MinInt + 1, -1 << 32, -1<<32 + 1, -maxUnits, -2, -1, 0, maxUnits + 1, maxUnits + 2, 1 << 21, 1 << 32, 1<<32 + 1, math.MaxInt - 1, math.MaxInt}
}

func noStates() []int {
	return []int{math.MinInt, math.MinInt + 1, -1 << 32, -1<<32 + 1, -2, -1, 3, 4, 255, 256, 257, 1 << 32, 1<<32 + 1, math.MaxInt - 1, math.MaxInt}
}

// dice tell numbers that look like any, the same in each run.
type dice uint64

func (d *dice) below(n int) int {
	*d = *d*6364136223846793005 + 1442695040888963407
	x := uint64(*d^*d>>31) * 0x9e3779b97f4a7c15
	return int((x >> 1) % uint64(n))
}

func (d *dice) one(l ...int) int { return l[d.below(len(l))] }

// The words: each of these reckons what a call answers, step by step, as its words say it.

// words is a book by the words: orders, each with the states that it had.
type words struct {
	orders []api.Order
	had    [][]int
}

func mayBeWanted(product, units int) bool {
	return !(product < 1 || product > lastProduct || units < 1 || units > maxUnits)
}

func (w *words) want(product, units int) (int, api.Errno) {
	switch {
	case !mayBeWanted(product, units):
		return 0, api.ErrArg
	case len(w.orders) == maxOrders:
		return 0, api.ErrFull
	}
	id := 1
	for _, o := range w.orders {
		id = max(id, o.ID+1)
	}
	w.orders = append(w.orders, of(id, product, units, 0))
	w.had = append(w.had, []int{0})
	return id, api.OK
}

func (w *words) at(id int) int {
	return slices.IndexFunc(w.orders, func(o api.Order) bool { return o.ID == id })
}

// behind is the state behind what is done to an order in a state; false, if it can't be done.
func behind(name string, state int) (int, bool) {
	next, there := map[string]map[int]int{allocate: {0: 1}, free: {1: 0}, ship: {1: 2}}[name][state]
	return next, there
}

func (w *words) do(name string, id int) api.Errno {
	at := w.at(id)
	if at < 0 {
		return api.ErrNone
	}
	next, there := behind(name, w.orders[at].State)
	if !there {
		return api.ErrState
	}
	w.orders[at].State = next
	w.had[at] = append(w.had[at], next)
	return api.OK
}

func (w *words) order(id int) (api.Order, api.Errno) {
	if at := w.at(id); at >= 0 {
		return w.orders[at], api.OK
	}
	return api.Order{}, api.ErrNone
}

func rightByWords(l []api.Order) bool {
	right := len(l) <= maxOrders
	for i, o := range l {
		right = right && o.ID == i+1 && mayBeWanted(o.Product, o.Units) && (o.State == 0 || o.State == 1 || o.State == 2)
	}
	return right
}

// do asks the program.
func do(b *order.Book, name string, id int) api.Errno {
	switch name {
	case allocate:
		return b.Allocate(id)
	case free:
		return b.Free(id)
	}
	return b.Ship(id)
}

// pair is a book, and the same by the words.
type pair struct {
	t *testing.T
	b *order.Book
	w *words
}

func newPair(t *testing.T) pair { return pair{t: t, b: order.New(), w: &words{}} }

// pairOf is the book of a list.
func pairOf(t *testing.T, l []api.Order) pair {
	t.Helper()
	b, e := order.Of(slices.Clone(l))
	if e != api.OK || b == nil {
		t.Fatalf("Of %v: error %d", l, e)
	}
	p := pair{t: t, b: b, w: &words{orders: slices.Clone(l)}}
	for _, o := range l {
		p.w.had = append(p.w.had, []int{o.State})
	}
	p.same()
	return p
}

// Each of these wants what is written out, and that it is so by the words.

func (p pair) want(product, units, want int, wantE api.Errno) {
	p.t.Helper()
	if id, e := p.w.want(product, units); id != want || e != wantE {
		p.t.Fatalf("Want %d, %d: by the words %d, error %d, not %d, error %d", product, units, id, e, want, wantE)
	}
	if id, e := p.b.Want(product, units); id != want || e != wantE {
		p.t.Fatalf("Want %d, %d: %d, error %d, not %d, error %d", product, units, id, e, want, wantE)
	}
}

func (p pair) do(name string, id int, want api.Errno) {
	p.t.Helper()
	if e := p.w.do(name, id); e != want {
		p.t.Fatalf("%s %d: by the words error %d, not %d", name, id, e, want)
	}
	if e := do(p.b, name, id); e != want {
		p.t.Fatalf("%s %d: error %d, not %d", name, id, e, want)
	}
}

func (p pair) order(id int, want api.Order, wantE api.Errno) {
	p.t.Helper()
	if o, e := p.w.order(id); o != want || e != wantE {
		p.t.Fatalf("Order %d: by the words %v, error %d, not %v, error %d", id, o, e, want, wantE)
	}
	if o, e := p.b.Order(id); o != want || e != wantE {
		p.t.Fatalf("Order %d: %v, error %d, not %v, error %d", id, o, e, want, wantE)
	}
}

// orders wants just these, and of each what Order tells.
func (p pair) orders(want ...api.Order) {
	p.t.Helper()
	if !slices.Equal(p.w.orders, want) {
		p.t.Fatalf("Orders: by the words %v, not %v", p.w.orders, want)
	}
	p.same()
}

// same wants that the book has what it has by the words.
func (p pair) same() {
	p.t.Helper()
	if l := p.b.Orders(); !slices.Equal(l, p.w.orders) {
		p.t.Fatalf("Orders: %v, not %v", l, p.w.orders)
	}
	for id := -1; id <= len(p.w.orders)+2; id++ {
		want, wantE := p.w.order(id)
		if o, e := p.b.Order(id); o != want || e != wantE {
			p.t.Fatalf("Order %d: %v, error %d, not %v, error %d", id, o, e, want, wantE)
		}
	}
}

// full is a list of so many orders, of all products, states, and units.
func full(n int) (l []api.Order) {
	for i := range n {
		units := 1 + i*i
		if i%5 == 4 {
			units = maxUnits - i
		}
		l = append(l, of(i+1, 1+i*7%lastProduct, units, i*5%3))
	}
	return l
}

func wantRight(t *testing.T, l []api.Order, want bool) {
	t.Helper()
	if words := rightByWords(l); words != want {
		t.Fatalf("%v: by the words right %t", l, words)
	}
	if right := order.Right(l); right != want {
		t.Fatalf("%v: right %t", l, right)
	}
	b, e := order.Of(l)
	if want != (e == api.OK) || want != (b != nil) || !want && e != api.ErrArg {
		t.Fatalf("Of %v: error %d, a book %t", l, e, b != nil)
	}
	if want && !slices.Equal(b.Orders(), l) {
		t.Fatalf("Of %v: %v", l, b.Orders())
	}
}

// P16.1, W1: a new book has no orders, and nothing can be done to one; nor has a book that nobody made.
func TestNew(t *testing.T) {
	var book order.Book
	for _, p := range []pair{newPair(t), {t: t, b: &book, w: &words{}}, pairOf(t, nil), pairOf(t, list())} {
		p.orders()
		for _, id := range edges() {
			p.order(id, api.Order{}, api.ErrNone)
			for _, name := range names() {
				p.do(name, id, api.ErrNone)
			}
		}
		p.orders()
		p.want(3, 7, 1, api.OK)
		p.orders(of(1, 3, 7, 0))
	}
	if one, other := order.New(), order.New(); one == nil || one == other {
		t.Error("New answers no book, or one book twice")
	}
}

// P16.1, W1: one order: it comes open, and is the only one.
func TestOne(t *testing.T) {
	p := newPair(t)
	p.want(3, 7, 1, api.OK)
	p.order(1, of(1, 3, 7, 0), api.OK)
	for _, id := range []int{0, 2, -1, 1 << 32, 1<<32 + 1, math.MinInt, math.MaxInt} {
		p.order(id, api.Order{}, api.ErrNone)
	}
	p.orders(of(1, 3, 7, 0))
}

// P16.1, W1: IDs are 1, 2, and so on, as they came; at 64 there is no room, and nothing changes.
func TestWantMany(t *testing.T) {
	p := newPair(t)
	var l []api.Order
	for i := range maxOrders {
		o := of(i+1, 1+i%lastProduct, 1+i*i*i, 0)
		p.want(o.Product, o.Units, i+1, api.OK)
		l = append(l, o)
		p.orders(l...)
		if i == 61 || i == 62 {
			p.order(i+2, api.Order{}, api.ErrNone)
		}
	}
	for range 3 {
		p.want(1, 1, 0, api.ErrFull)
		p.want(lastProduct, maxUnits, 0, api.ErrFull)
		p.orders(l...)
	}
	p.order(maxOrders, l[maxOrders-1], api.OK)
	p.order(maxOrders+1, api.Order{}, api.ErrNone)
	for _, name := range names() {
		p.do(name, maxOrders+1, api.ErrNone)
	}
	p.orders(l...)
}

// P16.1, W1: where orders are shipped, or free, no room comes.
func TestFullStays(t *testing.T) {
	p := pairOf(t, full(maxOrders))
	p.want(1, 1, 0, api.ErrFull)
	for id := 1; id <= maxOrders; id++ {
		p.w.do(allocate, id)
		p.w.do(ship, id)
		p.b.Allocate(id)
		p.b.Ship(id)
	}
	for _, o := range p.b.Orders() {
		if o.State != 2 {
			t.Errorf("%v is not shipped", o)
		}
	}
	p.same()
	p.want(1, 1, 0, api.ErrFull)
	p.same()
}

// P16.1, W1: products of 1 to 16, and units of 1 to 2^20, and none beyond.
func TestWantEnds(t *testing.T) {
	for _, product := range []int{1, 2, lastProduct - 1, lastProduct} {
		for _, units := range []int{1, 2, maxUnits - 1, maxUnits} {
			p := newPair(t)
			p.want(product, units, 1, api.OK)
			p.want(product, units, 2, api.OK)
			p.orders(of(1, product, units, 0), of(2, product, units, 0))
		}
	}
	p := pairOf(t, list(of(1, 3, 7, 1)))
	for _, product := range noProducts() {
		for _, units := range append(noUnits(), 1, 2, 7, maxUnits) {
			p.want(product, units, 0, api.ErrArg)
		}
	}
	for _, units := range noUnits() {
		for product := 1; product <= lastProduct; product++ {
			p.want(product, units, 0, api.ErrArg)
		}
	}
	p.orders(of(1, 3, 7, 1))
	p.want(4, 8, 2, api.OK)
	p.orders(of(1, 3, 7, 1), of(2, 4, 8, 0))
}

// P16.1, W1: where the book is full, and what is wanted may not be, it is ErrArg.
func TestWhichError(t *testing.T) {
	p := pairOf(t, full(maxOrders))
	for _, product := range noProducts() {
		p.want(product, 1, 0, api.ErrArg)
	}
	for _, units := range noUnits() {
		p.want(1, units, 0, api.ErrArg)
		p.want(0, units, 0, api.ErrArg)
	}
	p.want(1, 1, 0, api.ErrFull)
	p.same()
}

// P16.1, W1: Allocate, Free and Ship of an order in each of the states; an error changes nothing; no other order changes.
func TestStates(t *testing.T) {
	for _, x := range []struct {
		name           string
		state, becomes int
		e              api.Errno
	}{
		{allocate, 0, 1, api.OK}, {allocate, 1, 1, api.ErrState}, {allocate, 2, 2, api.ErrState},
		{free, 0, 0, api.ErrState}, {free, 1, 0, api.OK}, {free, 2, 2, api.ErrState},
		{ship, 0, 0, api.ErrState}, {ship, 1, 2, api.OK}, {ship, 2, 2, api.ErrState},
	} {
		for others := range 3 {
			for at := range 3 {
				l := list(of(1, 3, 7, others), of(2, 4, 8, others), of(3, 5, 9, others))
				l[at].State = x.state
				p := pairOf(t, l)
				p.do(x.name, at+1, x.e)
				l[at].State = x.becomes
				p.orders(l...)
			}
		}
	}
}

// P16.1, W1: IDs of 0, below it, the greatest one, one more, and at the ends of int, whatever the states.
func TestIDs(t *testing.T) {
	for _, n := range []int{0, 1, 2, 15, 16, 63, 64} {
		for _, name := range names() {
			p := pairOf(t, full(n))
			for _, id := range edges() {
				if id < 1 || id > n {
					p.do(name, id, api.ErrNone)
					p.order(id, api.Order{}, api.ErrNone)
				} else {
					p.order(id, full(n)[id-1], api.OK)
				}
			}
			p.orders(full(n)...)
			for id := 1; id <= n; id++ {
				want := api.ErrState
				if _, may := behind(name, full(n)[id-1].State); may {
					want = api.OK
				}
				p.do(name, id, want)
				p.same()
			}
			p.do(name, n+1, api.ErrNone)
			p.do(name, 0, api.ErrNone)
			p.same()
		}
	}
}

// P16.1, P16.2: an order that is allocated, freed, and allocated again; one that is shipped, and all that is asked of it then.
func TestLife(t *testing.T) {
	p := newPair(t)
	p.want(3, 7, 1, api.OK)
	p.do(free, 1, api.ErrState)
	p.do(ship, 1, api.ErrState)
	for range 3 {
		p.do(allocate, 1, api.OK)
		p.order(1, of(1, 3, 7, 1), api.OK)
		p.do(allocate, 1, api.ErrState)
		p.do(free, 1, api.OK)
		p.order(1, of(1, 3, 7, 0), api.OK)
		p.do(free, 1, api.ErrState)
		p.do(ship, 1, api.ErrState)
	}
	p.do(allocate, 1, api.OK)
	p.do(ship, 1, api.OK)
	for range 3 {
		p.orders(of(1, 3, 7, 2))
		for _, name := range []string{allocate, free, ship, ship, allocate, free} {
			p.do(name, 1, api.ErrState)
			p.order(1, of(1, 3, 7, 2), api.OK)
		}
	}
	p.want(3, 7, 2, api.OK)
	p.orders(of(1, 3, 7, 2), of(2, 3, 7, 0))
}

// P16.1, W1, rule 8: a nil book answers ErrArg, ahead of all else, and nothing.
func TestNilBook(t *testing.T) {
	var b *order.Book
	for _, n := range edges() {
		for _, m := range edges() {
			if id, e := b.Want(n, m); id != 0 || e != api.ErrArg {
				t.Errorf("Want %d, %d: %d, error %d", n, m, id, e)
			}
		}
		for _, name := range names() {
			if e := do(b, name, n); e != api.ErrArg {
				t.Errorf("%s %d: error %d", name, n, e)
			}
		}
		if o, e := b.Order(n); o != (api.Order{}) || e != api.ErrArg {
			t.Errorf("Order %d: %v, error %d", n, o, e)
		}
	}
	if l := b.Orders(); len(l) != 0 {
		t.Errorf("Orders: %v", l)
	}
}

// P16.1, W2: no orders, one, 63, 64, and 65, in all states.
func TestRight(t *testing.T) {
	wantRight(t, nil, true)
	wantRight(t, list(), true)
	for state := range 3 {
		wantRight(t, list(of(1, 1, 1, state)), true)
		wantRight(t, list(of(1, lastProduct, maxUnits, state)), true)
	}
	for n := range maxOrders + 1 {
		wantRight(t, full(n), true)
	}
	for n := maxOrders + 1; n < maxOrders+5; n++ {
		wantRight(t, full(n), false)
	}
	wantRight(t, full(1000), false)
}

// P16.1, W2: lists whose IDs begin at 0, at 2, that leave one out, that name one twice, that fall, or are any numbers.
func TestRightIDs(t *testing.T) {
	ids := func(n ...int) (l []api.Order) {
		for _, id := range n {
			l = append(l, of(id, 3, 7, 1))
		}
		return l
	}
	for _, wrong := range [][]int{
		{0}, {2}, {-1}, {0, 1}, {0, 1, 2}, {2, 3}, {2, 3, 4}, {1, 3}, {1, 3, 4}, {1, 2, 4}, {1, 1}, {1, 1, 2}, {1, 2, 2}, {1, 2, 2, 3}, {1, 1, 3},
		{2, 1}, {3, 2, 1}, {1, 3, 2}, {2, 1, 3}, {1, 2, 0}, {1, 2, -3}, {-1, -2}, {1, 1<<32 + 2}, {1 << 32, 1, 2}, {1<<32 + 1}, {math.MinInt}, {math.MaxInt}, {1, math.MaxInt}, {1, 2, math.MinInt},
	} {
		wantRight(t, ids(wrong...), false)
	}
	wantRight(t, ids(1), true)
	wantRight(t, ids(1, 2), true)
	wantRight(t, ids(1, 2, 3), true)
	for _, n := range []int{1, 2, 3, 63, 64} {
		for at := range n {
			for _, id := range edges() {
				l := full(n)
				l[at].ID = id
				wantRight(t, l, id == at+1)
			}
		}
	}
}

// P16.1, W2: one product, one number of units, or one state that may not be, first, last, in the middle.
func TestRightFields(t *testing.T) {
	for _, n := range []int{1, 2, 3, 5, 63, 64} {
		for _, at := range []int{0, n / 2, n - 1} {
			for _, product := range noProducts() {
				l := full(n)
				l[at].Product = product
				wantRight(t, l, false)
			}
			for _, units := range noUnits() {
				l := full(n)
				l[at].Units = units
				wantRight(t, l, false)
			}
			for _, state := range noStates() {
				l := full(n)
				l[at].State = state
				wantRight(t, l, false)
			}
			for product := 1; product <= lastProduct; product++ {
				for _, units := range []int{1, 2, maxUnits - 1, maxUnits} {
					for state := range 3 {
						l := full(n)
						l[at] = of(at+1, product, units, state)
						wantRight(t, l, true)
					}
				}
			}
		}
	}
}

// P16.1, W2: the book of a list has just that list, and goes on from there.
func TestOf(t *testing.T) {
	for _, n := range []int{0, 1, 2, 3, 7, 62, 63} {
		p := pairOf(t, full(n))
		p.orders(full(n)...)
		p.want(9, 90, n+1, api.OK)
		p.orders(append(full(n), of(n+1, 9, 90, 0))...)
		p.do(allocate, n+1, api.OK)
		p.do(ship, n+1, api.OK)
		p.orders(append(full(n), of(n+1, 9, 90, 2))...)
		for id := n + 2; id <= maxOrders; id++ {
			p.want(9, id, id, api.OK)
		}
		p.want(9, 1, 0, api.ErrFull)
		p.same()
	}
	p := pairOf(t, full(maxOrders))
	p.want(9, 90, 0, api.ErrFull)
	p.orders(full(maxOrders)...)
}

// P16.1: all ways of four calls, of two orders, in books that begin in any states.
func TestAllShortWays(t *testing.T) {
	type call struct {
		name string
		id   int
	}
	var calls []call
	for _, name := range names() {
		for id := 1; id <= 2; id++ {
			calls = append(calls, call{name, id})
		}
	}
	calls = append(calls, call{"Want", 0})
	ways := 1
	for range 4 {
		ways *= len(calls)
	}
	for states := range 9 {
		for way := range ways {
			p := pair{t: t, w: &words{}}
			p.w.orders = list(of(1, 3, 7, states%3), of(2, 5, 9, states/3))
			p.w.had = [][]int{nil, nil}
			p.b, _ = order.Of(p.w.orders)
			for range 4 {
				x := calls[way%len(calls)]
				way /= len(calls)
				if x.name == "Want" {
					id, wantE := p.w.want(6, 11)
					p.want6(id, wantE)
					continue
				}
				if e, wantE := do(p.b, x.name, x.id), p.w.do(x.name, x.id); e != wantE {
					t.Fatalf("%s %d: error %d, not %d", x.name, x.id, e, wantE)
				}
			}
			p.same()
		}
	}
}

// want6 wants that 11 units of product 6 are wanted.
func (p pair) want6(id int, wantE api.Errno) {
	p.t.Helper()
	if got, e := p.b.Want(6, 11); got != id || e != wantE {
		p.t.Fatalf("Want: %d, error %d, not %d, error %d", got, e, id, wantE)
	}
}

// watch looks at a book's orders behind each call: what may never change, did not.
type watch struct{ was []api.Order }

func (w *watch) look(t *testing.T, b *order.Book) {
	t.Helper()
	now := b.Orders()
	if len(now) < len(w.was) || len(now) > len(w.was)+1 || len(now) > maxOrders {
		t.Fatalf("%d orders, behind %d", len(now), len(w.was))
	}
	changed := 0
	for i, o := range now {
		if o.ID != i+1 {
			t.Fatalf("order %d at place %d", o.ID, i)
		}
		if i >= len(w.was) {
			if o.State != 0 {
				t.Fatalf("%v came, not open", o)
			}
			changed++
			continue
		}
		was := w.was[i]
		switch {
		case o.Product != was.Product || o.Units != was.Units:
			t.Fatalf("%v is %v now", was, o)
		case was.State == 2 && o.State != 2:
			t.Fatalf("%v was shipped, and is %v", was, o)
		case was.State == 0 && o.State == 2:
			t.Fatalf("%v is shipped, and was %v", o, was)
		case was.State != o.State:
			changed++
		}
	}
	if changed > 1 {
		t.Fatalf("one call changed %v to %v", w.was, now)
	}
	w.was = now
}

// P16.1, P16.2: long ways, of any calls: behind each of them the book has what it has by the words; what is shipped stays so, and was allocated just ahead; no product, nor units, ever change.
func TestLongWays(t *testing.T) {
	for seed := range 60 {
		d := dice(seed)
		p := pairOf(t, full(d.one(0, 0, 1, 5, 40, 63, 64)))
		eye := watch{was: p.b.Orders()}
		for range 600 {
			if d.below(4) == 0 {
				product, units := d.one(1, 5, 16, d.one(edges()...)), d.one(1, 70, maxUnits, d.one(edges()...))
				id, wantE := p.w.want(product, units)
				if got, e := p.b.Want(product, units); got != id || e != wantE {
					t.Fatalf("Want %d, %d: %d, error %d, not %d, error %d", product, units, got, e, id, wantE)
				}
			} else {
				name, id := names()[d.below(3)], d.one(1, 1+d.below(len(p.w.orders)+2), 1+d.below(5), d.one(edges()...))
				wantE := p.w.do(name, id)
				if e := do(p.b, name, id); e != wantE {
					t.Fatalf("%s %d: error %d, not %d", name, id, e, wantE)
				}
			}
			eye.look(t, p.b)
			if l := p.b.Orders(); !slices.Equal(l, p.w.orders) || !order.Right(l) {
				t.Fatalf("%v, not %v", l, p.w.orders)
			}
		}
		p.same()
		for i, had := range p.w.had {
			if at := slices.Index(had, 2); at >= 0 && (at != len(had)-1 || at > 0 && had[at-1] != 1) {
				t.Fatalf("order %d had the states %v", i+1, had)
			}
		}
	}
}

// P16.1, W2: any lists, nearly right.
func TestAnyLists(t *testing.T) {
	d := dice(16)
	rights := 0
	for range 20000 {
		l := full(d.below(70))
		for range d.below(3) {
			if len(l) == 0 {
				continue
			}
			o := &l[d.below(len(l))]
			switch n := d.one(edges()...); d.below(4) {
			case 0:
				o.ID = n
			case 1:
				o.Product = n
			case 2:
				o.Units = n
			default:
				o.State = n
			}
		}
		right := rightByWords(l)
		wantRight(t, l, right)
		if right {
			rights++
		}
	}
	if rights < 1000 || rights > 19000 {
		t.Errorf("%d of the lists were right", rights)
	}
}

// Rule 4: a list that is handed in stays as it was, is not kept, and what lies behind it is not looked at.
func TestOfKeepsNothing(t *testing.T) {
	for _, n := range []int{0, 1, 3, 40, 63} {
		memory := append(full(n), of(-9, -9, -9, -9), of(-9, -9, -9, -9))
		was := slices.Clone(memory)
		if !order.Right(memory[:n]) {
			t.Fatalf("%v is not right", memory[:n])
		}
		b, e := order.Of(memory[:n])
		if e != api.OK {
			t.Fatalf("Of %v: error %d", memory[:n], e)
		}
		p := pair{t: t, b: b, w: &words{orders: full(n), had: make([][]int, n)}}
		p.want(5, 6, n+1, api.OK)
		p.do(allocate, n+1, api.OK)
		for id := 1; id <= n; id++ {
			p.b.Allocate(id)
			p.w.do(allocate, id)
		}
		p.same()
		if !slices.Equal(memory, was) {
			t.Fatalf("what was handed in is %v", memory)
		}
		for i := range memory {
			memory[i] = of(-7, -7, -7, -7)
		}
		p.same()
		p.do(ship, n+1, api.OK)
		p.same()
	}
	memory := full(3)
	memory[2].Units = 0
	was := slices.Clone(memory)
	if b, e := order.Of(memory); b != nil || e != api.ErrArg || !slices.Equal(memory, was) {
		t.Errorf("%v, error %d", memory, e)
	}
}

// Rule 4: two books of one list go their own ways.
func TestBooksAreApart(t *testing.T) {
	l := full(5)
	one, _ := order.Of(l)
	other, _ := order.Of(l)
	if one.Allocate(1) != api.OK || !slices.Equal(other.Orders(), full(5)) {
		t.Errorf("the other book has %v", other.Orders())
	}
	third, _ := order.Of(one.Orders())
	if id, e := third.Want(4, 44); id != 6 || e != api.OK || third.Ship(1) != api.OK {
		t.Errorf("Want of the third one: %d, error %d", id, e)
	}
	if id, e := one.Want(3, 33); id != 6 || e != api.OK {
		t.Errorf("Want of the first one: %d, error %d", id, e)
	}
	had := append(full(5), of(6, 3, 33, 0))
	had[0].State = 1
	if !slices.Equal(one.Orders(), had) || !slices.Equal(l, full(5)) {
		t.Errorf("%v, %v", one.Orders(), l)
	}
}

// Rule 4: what Orders answers is new memory, each time; to write into it, or behind it, changes no book, and no call changes it.
func TestOrdersAreNew(t *testing.T) {
	p := pairOf(t, full(7))
	first, second := p.b.Orders(), p.b.Orders()
	for i := range first[:cap(first)] {
		first[:cap(first)][i] = of(-7, -7, -7, -7)
	}
	p.orders(full(7)...)
	if !slices.Equal(second, full(7)) {
		t.Errorf("the other answer is %v", second)
	}
	grown := append(second, of(-7, -7, -7, -7))
	p.want(3, 33, 8, api.OK)
	p.do(allocate, 1, api.OK)
	p.do(allocate, 8, api.OK)
	if grown[7] != of(-7, -7, -7, -7) || !slices.Equal(second, full(7)) {
		t.Errorf("a call changed what was answered: %v", grown)
	}
	o, e := p.b.Order(8)
	o.State, o.Units = 0, 1
	if e != api.OK || o == (api.Order{}) {
		t.Errorf("Order 8: error %d", e)
	}
	p.same()
}

// P1, P2: each call ends, at whatever it is given, and answers the same again, whatever was asked between.
func TestAgain(t *testing.T) {
	ask := func() (told []string) {
		d := dice(21)
		for range 200 {
			b, e := order.Of(full(d.below(66)))
			told = append(told, fmt.Sprint(b == nil, e))
			for range 50 {
				n, m := d.one(edges()...), d.one(edges()...)
				id, wantE := b.Want(n, m)
				o, e := b.Order(m)
				told = append(told, fmt.Sprint(id, wantE, o, e, b.Allocate(n), b.Free(m), b.Ship(n), b.Orders(), order.Right(list(of(n, m, n, m)))))
			}
		}
		return told
	}
	first := ask()
	for range 2 {
		if again := ask(); !slices.Equal(again, first) {
			t.Fatal("asked again, another answer")
		}
	}
}
