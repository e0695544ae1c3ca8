package fefo_test

import (
	"fmt"
	"math"
	"math/big"
	"slices"
	"testing"

	"hoarfrost/api"
	"hoarfrost/fefo"
)

// maxUnits is how many units a lot may have.
const maxUnits = 1 << 20

// lot is one of product 3; another is one of product 4.
func lot(id, units, expiry int) api.Lot {
	return api.Lot{ID: id, Product: 3, Units: units, Expiry: expiry}
}

func another(id, units, expiry int) api.Lot {
	return api.Lot{ID: id, Product: 4, Units: units, Expiry: expiry}
}

func lots(l ...api.Lot) []api.Lot { return l }

func take(id, units int) fefo.Take { return fefo.Take{Lot: id, Units: units} }

func takes(l ...fefo.Take) []fefo.Take { return l }

// edges are numbers at the ends, and some that would be others, if they wrapped round.
func edges() []int {
	return []int{math.MinInt, math.MinInt + 1, -1 << 32, -2, -1, 0, 1, 2, 1 << 20, 1<<32 + 1, 1 << 62, math.MaxInt - 1, math.MaxInt}
}

// noUnits are units that no lot may have.
func noUnits() []int {
	return []int{math.MinInt, math.MinInt + 1, -1 << 32, -1<<32 + 1, -maxUnits, -2, -1, 0, maxUnits + 1, maxUnits + 2, 1 << 21, 1 << 32, 1<<32 + 1, math.MaxInt - 1, math.MaxInt}
}

// dice tell numbers that look like any, the same in each run.
type dice uint64

func (d *dice) below(n int) int {
	*d = *d*6364136223846793005 + 1442695040888963407
	x := uint64(*d^*d>>31) * 0x9e3779b97f4a7c15
	return int((x >> 1) % uint64(n))
}

func (d *dice) one(l ...int) int { return l[d.below(len(l))] }

// same tells whether two lots are one, down to their stays.
func same(a, b api.Lot) bool { return fmt.Sprintf("%#v", a) == fmt.Sprintf("%#v", b) }

func sameLots(a, b []api.Lot) bool { return slices.EqualFunc(a, b, same) }

// The words: each of these reckons what a call answers, step by step, as its words say it.

// goesByWords tells whether a lot goes ahead of another one, that stands behind it in the list.
func goesByWords(a, b api.Lot) bool {
	if a.Expiry != b.Expiry {
		return a.Expiry < b.Expiry
	}
	return a.ID <= b.ID
}

// inOrderByWords takes from the list, again and again, the lot that goes ahead of all others.
func inOrderByWords(l []api.Lot) (ordered []api.Lot) {
	rest := slices.Clone(l)
	for len(rest) > 0 {
		first := 0
		for at := range rest {
			if !goesByWords(rest[first], rest[at]) {
				first = at
			}
		}
		ordered = append(ordered, rest[first])
		rest = slices.Delete(rest, first, first+1)
	}
	return ordered
}

func orderByWords(l []api.Lot) (ids []int) {
	for _, x := range inOrderByWords(l) {
		ids = append(ids, x.ID)
	}
	return ids
}

func pickByWords(l []api.Lot, product, units int) ([]fefo.Take, api.Errno) {
	var its []api.Lot
	there := big.NewInt(0)
	for _, x := range l {
		if x.Product != product {
			continue
		}
		if x.Units < 1 || x.Units > maxUnits {
			return nil, api.ErrArg
		}
		its = append(its, x)
		there.Add(there, big.NewInt(int64(x.Units)))
	}
	if units < 1 {
		return nil, api.ErrArg
	}
	if there.Cmp(big.NewInt(int64(units))) < 0 {
		return nil, api.ErrShort
	}
	var picked []fefo.Take
	for _, x := range inOrderByWords(its) {
		n := x.Units
		if n > units {
			n = units
		}
		if n > 0 {
			picked = append(picked, take(x.ID, n))
		}
		units -= n
	}
	return picked, api.OK
}

func totalByWords(l []fefo.Take) int {
	sum := big.NewInt(0)
	for _, x := range l {
		sum.Add(sum, big.NewInt(int64(x.Units)))
	}
	if !sum.IsInt64() {
		if sum.Sign() < 0 {
			return math.MinInt
		}
		return math.MaxInt
	}
	return int(sum.Int64())
}

// Each of these wants what is written out, and that it is so by the words.

func wantOrder(t *testing.T, l []api.Lot, want ...int) {
	t.Helper()
	if words := orderByWords(l); !slices.Equal(words, want) {
		t.Fatalf("Order of %v: by the words %v, not %v", l, words, want)
	}
	if got := fefo.Order(l); !slices.Equal(got, want) {
		t.Fatalf("Order of %v: %v, not %v", l, got, want)
	}
}

func wantPick(t *testing.T, l []api.Lot, units int, want ...fefo.Take) {
	t.Helper()
	if words, e := pickByWords(l, 3, units); e != api.OK || !slices.Equal(words, want) {
		t.Fatalf("%d of %v: by the words %v, error %d, not %v", units, l, words, e, want)
	}
	if got, e := fefo.Pick(l, 3, units); e != api.OK || !slices.Equal(got, want) {
		t.Fatalf("%d of %v: %v, error %d, not %v", units, l, got, e, want)
	}
}

// wantError wants an error, and beside it no takes.
func wantError(t *testing.T, l []api.Lot, product, units int, want api.Errno) {
	t.Helper()
	if words, e := pickByWords(l, product, units); e != want || len(words) != 0 {
		t.Fatalf("%d of product %d of %v: by the words %v, error %d, not %d", units, product, l, words, e, want)
	}
	if got, e := fefo.Pick(l, product, units); e != want || len(got) != 0 {
		t.Fatalf("%d of product %d of %v: %v, error %d, not %d", units, product, l, got, e, want)
	}
}

func wantTotal(t *testing.T, want int, l ...fefo.Take) {
	t.Helper()
	if words := totalByWords(l); words != want {
		t.Fatalf("Total of %v: by the words %d, not %d", l, words, want)
	}
	if got := fefo.Total(l); got != want {
		t.Fatalf("Total of %v: %d, not %d", l, got, want)
	}
}

// wantByWords wants of any list what the words say.
func wantByWords(t *testing.T, l []api.Lot, product, units int) {
	t.Helper()
	wantOrder(t, l, orderByWords(l)...)
	want, e := pickByWords(l, product, units)
	got, gotE := fefo.Pick(l, product, units)
	if gotE != e || !slices.Equal(got, want) {
		t.Fatalf("%d of product %d of %v: %v, error %d, not %v, error %d", units, product, l, got, gotE, want, e)
	}
	wantTotal(t, totalByWords(got), got...)
}

// P15.1: the document's example: of two lots that end at 20 the one with the lesser ID goes whole, of the other one 1 unit.
func TestExample(t *testing.T) {
	for _, l := range [][]api.Lot{lots(lot(4, 6, 20), lot(9, 6, 20)), lots(lot(9, 6, 20), lot(4, 6, 20))} {
		wantOrder(t, l, 4, 9)
		wantPick(t, l, 7, take(4, 6), take(9, 1))
	}
}

// P15.1, F1: no lots, one, many, of any products; those go first whose Expiry is less, of one Expiry those whose ID is less.
func TestOrder(t *testing.T) {
	wantOrder(t, nil)
	wantOrder(t, lots())
	wantOrder(t, lots(lot(7, 5, 20)), 7)
	wantOrder(t, lots(api.Lot{}), 0)
	wantOrder(t, lots(lot(1, 5, 20), lot(2, 5, 10)), 2, 1)
	wantOrder(t, lots(lot(1, 5, 10), lot(2, 5, 20)), 1, 2)
	wantOrder(t, lots(lot(2, 5, 10), lot(1, 5, 20)), 2, 1)
	wantOrder(t, lots(lot(2, 5, 20), lot(1, 5, 10)), 1, 2)
	wantOrder(t, lots(lot(2, 5, 10), lot(1, 5, 10)), 1, 2)
	wantOrder(t, lots(lot(1, 5, 10), lot(2, 5, 10)), 1, 2)
	wantOrder(t, lots(lot(2, 5, 10), lot(2, 9, 10), lot(2, 7, 10)), 2, 2, 2)
	wantOrder(t, lots(lot(2, 5, 10), another(1, 5, 10), lot(3, 5, 5), another(4, 5, 5), lot(5, 5, 7)), 3, 4, 5, 1, 2)
	wantOrder(t, lots(lot(5, 5, 10), lot(2, 5, 30), lot(4, 5, 10), lot(1, 5, 30), lot(3, 5, 20)), 4, 5, 3, 1, 2)
}

// P15.1, F1: Expiries, and IDs, below 0, and at the ends of int, are held against each other as whole numbers.
func TestOrderEdges(t *testing.T) {
	n := edges()
	for i, a := range n {
		for j, b := range n {
			if i < j {
				wantOrder(t, lots(lot(1, 5, b), lot(2, 5, a)), 2, 1)
				wantOrder(t, lots(lot(2, 5, a), lot(1, 5, b)), 2, 1)
				wantOrder(t, lots(lot(b, 5, 20), lot(a, 5, 20)), a, b)
				wantOrder(t, lots(lot(a, 5, 20), lot(b, 5, 20)), a, b)
				wantOrder(t, lots(lot(b, 5, a), lot(a, 5, b)), b, a)
				wantOrder(t, lots(lot(a, 5, b), lot(b, 5, a)), b, a)
			}
		}
	}
	var rising, falling []api.Lot
	for i := range n {
		rising = append(rising, lot(n[i], 5, n[i]))
		falling = append(falling, lot(n[len(n)-1-i], 5, n[len(n)-1-i]))
	}
	wantOrder(t, rising, n...)
	wantOrder(t, falling, n...)
}

// P15.1, F1: nothing else of a lot makes a difference to Order, whatever may not be.
func TestOrderAlone(t *testing.T) {
	for _, n := range edges() {
		for _, m := range edges() {
			one := api.Lot{ID: 1, Expiry: 20, Product: n, Units: m, Grant: n, Order: m, Status: api.Status(n), Stays: []api.Stay{{Zone: n, From: m, To: n}}}
			two := api.Lot{ID: 2, Expiry: 20, Product: m, Units: n, Grant: m, Order: n, Status: api.Status(m)}
			wantOrder(t, lots(one, two), 1, 2)
			wantOrder(t, lots(two, one), 1, 2)
			two.Expiry = 19
			wantOrder(t, lots(one, two), 2, 1)
		}
	}
}

// P15.1, F1: each lot with all its units, the last one perhaps with less, so that there are so many.
func TestPick(t *testing.T) {
	one := lots(lot(7, 5, 20))
	wantPick(t, one, 1, take(7, 1))
	wantPick(t, one, 4, take(7, 4))
	wantPick(t, one, 5, take(7, 5))
	wantError(t, one, 3, 6, api.ErrShort)
	wantError(t, one, 3, 0, api.ErrArg)
	many := lots(lot(5, 3, 10), lot(2, 4, 30), lot(4, 1, 10), lot(1, 2, 30), lot(3, 5, 20))
	wantPick(t, many, 1, take(4, 1))
	wantPick(t, many, 2, take(4, 1), take(5, 1))
	wantPick(t, many, 4, take(4, 1), take(5, 3))
	wantPick(t, many, 5, take(4, 1), take(5, 3), take(3, 1))
	wantPick(t, many, 9, take(4, 1), take(5, 3), take(3, 5))
	wantPick(t, many, 10, take(4, 1), take(5, 3), take(3, 5), take(1, 1))
	wantPick(t, many, 11, take(4, 1), take(5, 3), take(3, 5), take(1, 2))
	wantPick(t, many, 14, take(4, 1), take(5, 3), take(3, 5), take(1, 2), take(2, 3))
	wantPick(t, many, 15, take(4, 1), take(5, 3), take(3, 5), take(1, 2), take(2, 4))
	wantError(t, many, 3, 16, api.ErrShort)
}

// P15.1, F1: of products by turns, just the lots of the one that is asked; none of it is too few; any number is a product's.
func TestPickProduct(t *testing.T) {
	l := lots(another(1, 9, 5), lot(2, 3, 20), another(3, 9, 10), lot(4, 2, 10), another(5, 9, 30), lot(6, 4, 30), another(2, 9, 20))
	wantPick(t, l, 2, take(4, 2))
	wantPick(t, l, 6, take(4, 2), take(2, 3), take(6, 1))
	wantPick(t, l, 9, take(4, 2), take(2, 3), take(6, 4))
	wantError(t, l, 3, 10, api.ErrShort)
	got, e := fefo.Pick(l, 4, 19)
	if want := takes(take(1, 9), take(3, 9), take(2, 1)); e != api.OK || !slices.Equal(got, want) {
		t.Errorf("of product 4: %v, error %d, not %v", got, e, want)
	}
	for _, none := range []int{math.MinInt, -3, -1, 0, 1, 2, 5, 1<<32 + 3, math.MaxInt} {
		wantError(t, l, none, 1, api.ErrShort)
		wantError(t, l, none, 0, api.ErrArg)
		wantError(t, nil, none, 1, api.ErrShort)
		its := append(slices.Clone(l), api.Lot{ID: 8, Product: none, Units: 6, Expiry: 7})
		if got, e := fefo.Pick(its, none, 6); e != api.OK || !slices.Equal(got, takes(take(8, 6))) {
			t.Errorf("of product %d: %v, error %d", none, got, e)
		}
		wantPick(t, its, 9, take(4, 2), take(2, 3), take(6, 4))
	}
}

// P15.1, F1: units of 0, below it, 1, at the ends, and as many as there are, one more, and one less.
func TestPickUnits(t *testing.T) {
	for _, l := range [][]api.Lot{nil, lots(), lots(another(1, 5, 20)), lots(lot(1, 5, 20)), lots(lot(1, 5, 20), lot(2, maxUnits, 10))} {
		for _, units := range []int{math.MinInt, math.MinInt + 1, -1 << 62, -1 << 32, -1<<32 + 1, -5, -2, -1, 0} {
			wantError(t, l, 3, units, api.ErrArg)
		}
		for _, units := range []int{maxUnits + 6, 1 << 32, 1<<32 + 1, 1<<32 + 5, 1 << 62, 1<<62 + 1, math.MaxInt - 1, math.MaxInt} {
			wantError(t, l, 3, units, api.ErrShort)
		}
	}
	l := lots(lot(1, maxUnits, 20), lot(2, maxUnits, 10), lot(3, 1, 30), lot(4, maxUnits, 5))
	wantPick(t, l, maxUnits-1, take(4, maxUnits-1))
	wantPick(t, l, maxUnits, take(4, maxUnits))
	wantPick(t, l, maxUnits+1, take(4, maxUnits), take(2, 1))
	wantPick(t, l, 3*maxUnits-1, take(4, maxUnits), take(2, maxUnits), take(1, maxUnits-1))
	wantPick(t, l, 3*maxUnits, take(4, maxUnits), take(2, maxUnits), take(1, maxUnits))
	wantPick(t, l, 3*maxUnits+1, take(4, maxUnits), take(2, maxUnits), take(1, maxUnits), take(3, 1))
	wantError(t, l, 3, 3*maxUnits+2, api.ErrShort)
}

// P15.1, F1: so many units that there are more than 2^32 in all.
func TestPickFar(t *testing.T) {
	const n = 1<<12 + 3
	var l []api.Lot
	for i := range n {
		l = append(l, lot(n-i, maxUnits, 20), another(n-i, 1, 20))
	}
	for _, less := range []int{0, 1, maxUnits - 1, maxUnits, maxUnits + 1, 3*maxUnits + 5} {
		got, e := fefo.Pick(l, 3, n*maxUnits-less)
		if e != api.OK || len(got) != n-less/maxUnits || fefo.Total(got) != n*maxUnits-less {
			t.Errorf("all less %d: %d lots, %d units, error %d", less, len(got), fefo.Total(got), e)
		}
		for i, x := range got {
			if x.Lot != i+1 || i < len(got)-1 && x.Units != maxUnits {
				t.Fatalf("all less %d: %v is the one behind %d", less, x, i)
			}
		}
	}
	for _, units := range []int{n*maxUnits + 1, n*maxUnits + maxUnits, 1 << 33, 1 << 62, math.MaxInt} {
		if got, e := fefo.Pick(l, 3, units); e != api.ErrShort || len(got) != 0 {
			t.Errorf("%d: %d lots, error %d", units, len(got), e)
		}
	}
}

// P15.1, F1: of lots of one Expiry and one ID the one ahead in the list goes first, in lists of all lengths, rising and from behind.
func TestPickAlike(t *testing.T) {
	wantPick(t, lots(lot(2, 5, 10), lot(2, 9, 10), lot(2, 7, 10)), 15, take(2, 5), take(2, 9), take(2, 1))
	wantPick(t, lots(lot(2, 9, 10), lot(2, 7, 10), lot(2, 5, 10)), 15, take(2, 9), take(2, 6))
	wantPick(t, lots(lot(2, 7, 10), lot(2, 5, 10), lot(2, 9, 10)), 15, take(2, 7), take(2, 5), take(2, 3))
	for _, n := range []int{2, 5, 12, 13, 20, 50, 51, 100, 500} {
		for _, kinds := range []int{1, 2, 3, 7} {
			for _, by := range []int{1, -1} {
				var l []api.Lot
				sum := 0
				for i := range n {
					kind := (i*by%kinds + kinds) % kinds
					l = append(l, lot(kind%2, i+1, kind/2), another(0, i+1, 0))
					sum += i + 1
				}
				for _, units := range []int{1, 2, sum / 2, sum - 1, sum} {
					want, e := pickByWords(l, 3, units)
					if e != api.OK {
						t.Fatalf("error %d", e)
					}
					wantPick(t, l, units, want...)
				}
			}
		}
	}
}

// P15.1, F1: a lot of the product with units that none may have, at any place, needed or not; just within there is no error.
func TestPickWrongLots(t *testing.T) {
	for at := range 4 {
		for _, wrong := range noUnits() {
			l := lots(lot(1, 5, 10), lot(2, 5, 20), lot(3, 5, 30), lot(4, 5, 40))
			l[at].Units = wrong
			for _, units := range []int{math.MinInt, -1, 0, 1, 5, 6, 15, 16, 20, 21, maxUnits, 1 << 32, 1 << 62, math.MaxInt} {
				wantError(t, l, 3, units, api.ErrArg)
			}
			l[at].Product = 4
			for _, units := range []int{1, 5, 6, 15} {
				wantByWords(t, l, 3, units)
				if got, e := fefo.Pick(l, 3, units); e != api.OK || fefo.Total(got) != units {
					t.Errorf("%d of %v: %v, error %d", units, l, got, e)
				}
			}
			wantError(t, l, 3, 16, api.ErrShort)
			wantError(t, l, 3, 0, api.ErrArg)
			wantError(t, l, 4, 1, api.ErrArg)
			wantError(t, l, 5, 1, api.ErrShort)
		}
		for _, right := range []int{1, 2, maxUnits - 1, maxUnits} {
			l := lots(lot(1, 5, 10), lot(2, 5, 20), lot(3, 5, 30), lot(4, 5, 40))
			l[at].Units = right
			for _, units := range []int{1, 5, 6, right, right + 14, right + 15} {
				want, e := pickByWords(l, 3, units)
				if e != api.OK {
					t.Fatalf("error %d", e)
				}
				wantPick(t, l, units, want...)
			}
			wantError(t, l, 3, right+16, api.ErrShort)
		}
	}
	wantError(t, lots(lot(1, 0, 10), lot(2, maxUnits+1, 20)), 3, 1, api.ErrArg)
	wantError(t, lots(lot(1, -5, 10), lot(2, 10, 20)), 3, 5, api.ErrArg)
	wantError(t, lots(api.Lot{}), 0, 1, api.ErrArg)
}

// P15.1, F1: nothing else of a lot makes a difference to Pick: its status, its order, its grant, its stays.
func TestPickAlone(t *testing.T) {
	for _, n := range edges() {
		one := api.Lot{ID: 1, Product: 3, Units: 5, Expiry: 20, Grant: n, Order: n, Status: api.Status(n), Stays: []api.Stay{{Zone: n, From: n, To: n}}}
		wantPick(t, lots(lot(2, 5, 20), one), 7, take(1, 5), take(2, 2))
		wantPick(t, lots(lot(0, 5, 20), one), 7, take(0, 5), take(1, 2))
	}
	for _, s := range []api.Status{api.Quarantine, api.Released, api.Held, api.Rejected, api.Shipped} {
		one := lot(1, 5, 20)
		one.Status = s
		wantPick(t, lots(one, lot(2, 5, 20)), 7, take(1, 5), take(2, 2))
	}
}

// P15.1, F1: lots' IDs, and Expiries, at the ends go to the takes as they are.
func TestPickEdges(t *testing.T) {
	for _, a := range edges() {
		for _, b := range edges() {
			for units := 1; units <= 11; units++ {
				wantByWords(t, lots(lot(a, 3, 20), lot(b, 7, 20)), 3, units)
				wantByWords(t, lots(lot(1, 3, a), lot(2, 7, b)), 3, units)
				wantByWords(t, lots(lot(a, 3, b), lot(b, 7, a)), 3, units)
			}
		}
	}
}

// small are all lists of up to some lots, of both products, of one or two units, IDs and Expiries.
func small(most int, each func(l []api.Lot)) {
	var of func(l []api.Lot)
	of = func(l []api.Lot) {
		each(l)
		if len(l) == most {
			return
		}
		for i := range 16 {
			of(append(slices.Clone(l), api.Lot{ID: i & 1, Product: 3 + i>>1&1, Units: 1 + i>>2&1, Expiry: i >> 3}))
		}
	}
	of(nil)
}

// P15.1, P15.2: all that are small, by the words.
func TestSmall(t *testing.T) {
	small(4, func(l []api.Lot) {
		want := orderByWords(l)
		if got := fefo.Order(l); !slices.Equal(got, want) {
			t.Fatalf("Order of %v: %v, not %v", l, got, want)
		}
		for units := range 2*len(l) + 2 {
			want, e := pickByWords(l, 3, units)
			if got, gotE := fefo.Pick(l, 3, units); gotE != e || !slices.Equal(got, want) {
				t.Fatalf("%d of %v: %v, error %d, not %v, error %d", units, l, got, gotE, want, e)
			}
			if e == api.OK {
				wantFirstOut(t, l, 3, units)
			}
		}
	})
}

// marked are lots with places in the list for IDs, each told back by its take, so that no two are one.
func marked(d *dice, n, expiries int) (l []api.Lot) {
	for i := range n {
		l = append(l, api.Lot{ID: i, Product: 3 + d.below(2), Units: 1 + d.below(d.one(1, 2, 9, maxUnits)), Expiry: d.below(expiries) - expiries/2})
	}
	for i := n - 1; i > 0; i-- {
		other := d.below(i + 1)
		l[i], l[other] = l[other], l[i]
	}
	return l
}

// wantFirstOut wants of what is picked what P15.2 promises, lot by lot.
func wantFirstOut(t *testing.T, l []api.Lot, product, units int) {
	t.Helper()
	picked, e := fefo.Pick(l, product, units)
	if e != api.OK {
		t.Fatalf("%d of %v: error %d", units, l, e)
	}
	if sum := totalByWords(picked); sum != units || fefo.Total(picked) != units {
		t.Fatalf("%d of %v: %v has %d, and by Total %d", units, l, picked, sum, fefo.Total(picked))
	}
	its := slices.DeleteFunc(slices.Clone(l), func(x api.Lot) bool { return x.Product != product })
	used := make([]bool, len(its))
	last := -1
	for i, x := range picked {
		// Of lots with one ID a take is of the one that goes first, of those that were not picked yet.
		at := -1
		for j, y := range its {
			if !used[j] && y.ID == x.Lot && (at < 0 || y.Expiry < its[at].Expiry) {
				at = j
			}
		}
		if at < 0 {
			t.Fatalf("%d of %v: %v, where %v is no lot of the product, or twice", units, l, picked, x)
		}
		used[at], last = true, at
		if whole := its[at].Units; x.Units < 1 || x.Units > whole || i < len(picked)-1 && x.Units != whole {
			t.Fatalf("%d of %v: %v, where %v has not all of %v", units, l, picked, x, its[at])
		}
	}
	for j, y := range its {
		ahead := y.Expiry < its[last].Expiry || y.Expiry == its[last].Expiry && (y.ID < its[last].ID || y.ID == its[last].ID && j < last)
		if ahead != used[j] && j != last {
			t.Fatalf("%d of %v: %v, where %v goes ahead of the last one: %t", units, l, picked, y, ahead)
		}
	}
}

// P15.2: just so many units, no lot twice, all of those that go ahead, in part just the last one; in long lists, of few Expiries and many, as they lie, in order, and from behind.
func TestFirstOut(t *testing.T) {
	d := dice(15)
	wholes, parts := 0, 0
	for range 600 {
		n := 1 + d.below(d.one(3, 12, 13, 40, 120))
		l := marked(&d, n, d.one(1, 2, 5, 1000))
		ordered := inOrderByWords(l)
		backwards := slices.Clone(ordered)
		slices.Reverse(backwards)
		there := 0
		for _, x := range l {
			if x.Product == 3 {
				there += x.Units
			}
		}
		for _, list := range [][]api.Lot{l, ordered, backwards} {
			wantByWords(t, list, 3, there+1)
			if there == 0 {
				continue
			}
			upto := 0 // a sum of whole lots, so that the last one is picked whole, too
			for _, x := range ordered[:d.below(n)] {
				if x.Product == 3 {
					upto += x.Units
				}
			}
			for _, units := range []int{1, there, max(1, there-1), max(1, upto), 1 + d.below(there), 1 + d.below(there)} {
				wantByWords(t, list, 3, units)
				wantFirstOut(t, list, 3, units)
				if picked, _ := fefo.Pick(list, 3, units); picked[len(picked)-1].Units == unitsOf(list, picked[len(picked)-1].Lot) {
					wholes++
				} else {
					parts++
				}
			}
		}
	}
	if wholes < 1000 || parts < 1000 {
		t.Errorf("%d last lots were picked whole, %d in part: too few to tell", wholes, parts)
	}
}

// unitsOf is how many the lot with an ID has.
func unitsOf(l []api.Lot, id int) int {
	return l[slices.IndexFunc(l, func(x api.Lot) bool { return x.ID == id })].Units
}

// P15.1, P15.2: how the lots lie in the list makes no difference, if no two are of one Expiry and one ID; nor do those of other products.
func TestAnyList(t *testing.T) {
	d := dice(8)
	for range 200 {
		l := marked(&d, 1+d.below(60), d.one(1, 3, 100))
		its := slices.DeleteFunc(slices.Clone(l), func(x api.Lot) bool { return x.Product != 3 })
		units := 1 + d.below(100)
		ids := fefo.Order(l)
		picked, e := fefo.Pick(l, 3, units)
		for range 5 {
			for i := len(l) - 1; i > 0; i-- {
				other := d.below(i + 1)
				l[i], l[other] = l[other], l[i]
			}
			if again := fefo.Order(l); !slices.Equal(again, ids) {
				t.Fatalf("Order of %v: %v, and %v, where they lie in another way", l, again, ids)
			}
			if again, e2 := fefo.Pick(l, 3, units); e2 != e || !slices.Equal(again, picked) {
				t.Fatalf("%d of %v: %v, and %v, where they lie in another way", units, l, again, picked)
			}
		}
		if alone, e2 := fefo.Pick(its, 3, units); e2 != e || !slices.Equal(alone, picked) {
			t.Fatalf("%d of %v: %v, and %v with the other product's", units, its, alone, picked)
		}
	}
}

// P15.1, P15.2: one unit more is one unit more of the last lot, or the first one of the next.
func TestOneMore(t *testing.T) {
	d := dice(5)
	for range 60 {
		l := marked(&d, 1+d.below(20), 4)
		for i := range l {
			l[i].Units = 1 + l[i].Units%5
		}
		before := takes()
		for units := 1; ; units++ {
			picked, e := fefo.Pick(l, 3, units)
			if e != api.OK {
				wantError(t, l, 3, units, api.ErrShort)
				break
			}
			n := len(picked)
			if n == 0 {
				t.Fatalf("%d of %v: no takes", units, l)
			}
			less := slices.Clone(picked)
			if less[n-1].Units--; less[n-1].Units == 0 {
				less = less[:n-1]
			}
			if !slices.Equal(less, before) {
				t.Fatalf("of %v: %v, and with one less %v", l, picked, before)
			}
			before = picked
		}
	}
}

// P15.1, F1: the units of no takes, of few, of many, of lots that are one.
func TestTotal(t *testing.T) {
	wantTotal(t, 0)
	if n := fefo.Total(nil); n != 0 {
		t.Errorf("Total of nothing: %d", n)
	}
	wantTotal(t, 0, take(5, 0))
	wantTotal(t, 7, take(5, 7))
	wantTotal(t, -7, take(5, -7))
	wantTotal(t, 12, take(5, 7), take(6, 5))
	wantTotal(t, 12, take(5, 7), take(5, 5))
	wantTotal(t, 2, take(5, 7), take(6, -5))
	wantTotal(t, -2, take(5, -7), take(6, 5))
	wantTotal(t, 0, take(5, 7), take(6, -7))
	wantTotal(t, 6, take(-1, 1), take(0, 2), take(math.MinInt, 0), take(math.MaxInt, 3))
	wantTotal(t, 1<<33, take(1, 1<<32), take(2, 1<<32))
	wantTotal(t, -1<<33, take(1, -1<<32), take(2, -1<<32))
	l := slices.Repeat(takes(take(3, maxUnits)), 1<<13)
	wantTotal(t, 1<<33, l...)
}

// P15.1, F1: what Pick tells has what was wanted.
func TestTotalOfPick(t *testing.T) {
	l := lots(lot(1, maxUnits, 10), lot(2, 7, 20), lot(3, maxUnits, 20), lot(4, 1, 5))
	for _, units := range []int{1, 2, maxUnits, maxUnits + 1, maxUnits + 2, maxUnits + 8, maxUnits + 9, 2*maxUnits + 8} {
		picked, e := fefo.Pick(l, 3, units)
		if e != api.OK {
			t.Fatalf("%d: error %d", units, e)
		}
		wantTotal(t, units, picked...)
	}
	picked, _ := fefo.Pick(l, 3, 2*maxUnits+9)
	wantTotal(t, 0, picked...)
}

// P15.1, F1, rule 10: nothing wraps round: units at the ends; a sum that leaves the ends and comes back is what it is, and one that stays beyond is the end.
func TestTotalEdges(t *testing.T) {
	const least, greatest = math.MinInt, math.MaxInt
	for _, n := range edges() {
		wantTotal(t, n, take(1, n))
		wantTotal(t, n, take(1, 0), take(2, n), take(3, 0))
	}
	for _, x := range []struct {
		want int
		l    []int
	}{
		{1 << 62, []int{1 << 62}}, {1<<62 + 1, []int{1 << 62, 1}}, {greatest, []int{1 << 62, 1<<62 - 1}}, {greatest, []int{1 << 62, 1 << 62}},
		{greatest, []int{greatest, 0}}, {greatest, []int{greatest, 1}}, {greatest, []int{greatest, greatest}}, {greatest, []int{greatest, greatest, greatest}}, {greatest, []int{greatest, greatest, greatest, greatest, greatest}},
		{least, []int{least, 0}}, {least, []int{least, -1}}, {least, []int{least, least}}, {least, []int{least, least, least}}, {least, []int{least, least, least, least, least}}, {least, []int{-1 << 62, -1 << 62}}, {least, []int{-1 << 62, -1 << 62, -1}},
		{greatest, []int{greatest, 1, -1}}, {greatest - 1, []int{greatest, 1, -2}}, {greatest, []int{greatest, 2, -1}}, {greatest, []int{1, greatest, -1}}, {greatest, []int{-1, greatest, 1}},
		{least, []int{least, -1, 1}}, {least + 1, []int{least, -1, 2}}, {least, []int{least, -2, 1}}, {least, []int{1, least, -1}},
		{-1, []int{greatest, least}}, {-1, []int{least, greatest}}, {0, []int{greatest, least, 1}}, {-2, []int{greatest, greatest, least, least}}, {-2, []int{least, least, greatest, greatest}}, {5, []int{greatest, greatest, greatest, least, least, least, 8}},
		{greatest, []int{greatest, greatest, greatest, least}}, {greatest - 1, []int{greatest, greatest, least}}, {greatest, []int{greatest, greatest, least, 2}}, {least, []int{least, least, least, greatest}}, {least, []int{least, least, greatest}}, {least, []int{least, least, greatest, 1}}, {least + 1, []int{least, least, greatest, 2}},
	} {
		var l []fefo.Take
		for i, n := range x.l {
			l = append(l, take(i, n))
		}
		wantTotal(t, x.want, l...)
		slices.Reverse(l)
		wantTotal(t, x.want, l...)
	}
	d := dice(3)
	for range 20000 {
		var l []fefo.Take
		for range d.below(9) {
			l = append(l, take(d.below(3), d.one(d.one(edges()...), d.below(9)-4)))
		}
		wantTotal(t, totalByWords(l), l...)
	}
}

// where are stays of a lot; handed are lots with stays, that lie in a list which is longer than what is handed in.
func where(n int) []api.Stay {
	return []api.Stay{{Zone: n, From: 3, To: 40}, {Zone: 1, From: 40, To: -1}}
}

func handed(n int) (memory, was []api.Lot) {
	for i := range n {
		x := api.Lot{ID: n - i%7, Product: 3 + i%2, Units: 1 + i%5, Expiry: i * 5 % 11, Grant: i, Order: i + 1, Status: api.Status(i % 5)}
		mine, copied := x, x
		mine.Stays, copied.Stays = where(i), where(i)
		memory, was = append(memory, mine), append(was, copied)
	}
	return memory, was
}

// Rule 4: lots that are handed in stay as they were, where they lie in order, too, and so do their stays; with an error likewise; what lies behind them is not looked at.
func TestNothingIsWritten(t *testing.T) {
	for _, n := range []int{0, 1, 2, 5, 12, 13, 40} {
		memory, was := handed(n + 3)
		backwards := slices.Clone(was)
		slices.Reverse(backwards)
		for _, beyond := range lots(lot(-9, 5, -9), lot(-9, 0, -9), lot(-9, maxUnits+1, -9), api.Lot{}) {
			for i := n; i < n+3; i++ {
				memory[i], was[i] = beyond, beyond
			}
			for _, units := range []int{-1, 0, 1, 2, 7, n, 2 * n, 1 << 40} {
				got, e := fefo.Pick(memory[:n], 3, units)
				if want, wantE := pickByWords(was[:n:n], 3, units); e != wantE || !slices.Equal(got, want) {
					t.Errorf("%d: %v, error %d, not %v, error %d", units, got, e, want, wantE)
				}
				if ids := fefo.Order(memory[:n]); !slices.Equal(ids, orderByWords(was[:n:n])) {
					t.Errorf("%v: %v", memory[:n], ids)
				}
				if !sameLots(memory, was) {
					t.Fatalf("%d of %d lots: what was handed in is %v", units, n, memory)
				}
			}
		}
	}
}

// spoil writes into all memory of a list.
func spoil[T any](l []T, by T) {
	for i := range l[:cap(l)] {
		l[:cap(l)][i] = by
	}
}

// Rule 4: what is answered is new memory, of each answer; nothing of what was handed in is kept.
func TestNewMemory(t *testing.T) {
	memory, was := handed(30)
	ids, wantIDs := fefo.Order(memory), orderByWords(was)
	picked, _ := fefo.Pick(memory, 3, 20)
	want, e := pickByWords(was, 3, 20)
	if e != api.OK || !slices.Equal(ids, wantIDs) || !slices.Equal(picked, want) {
		t.Fatalf("%v, %v, not %v, %v", ids, picked, wantIDs, want)
	}
	otherIDs := fefo.Order(memory)
	others, _ := fefo.Pick(memory, 3, 20)
	spoil(ids, -7)
	spoil(picked, take(-7, -7))
	if !sameLots(memory, was) || !slices.Equal(otherIDs, wantIDs) || !slices.Equal(others, want) {
		t.Errorf("what was answered shares memory: %v, %v, %v", memory, otherIDs, others)
	}
	for i := range memory {
		spoil(memory[i].Stays, api.Stay{Zone: -7, From: -7, To: -7})
	}
	spoil(memory, lot(-7, 1, -7))
	if !slices.Equal(otherIDs, wantIDs) || !slices.Equal(others, want) {
		t.Errorf("what was handed in was kept: %v, %v", otherIDs, others)
	}
	if again, e := fefo.Pick(was, 3, 20); e != api.OK || !slices.Equal(again, want) || !slices.Equal(fefo.Order(was), wantIDs) {
		t.Errorf("asked again: %v, error %d", again, e)
	}
	summed := slices.Clone(want)
	if fefo.Total(summed) != 20 || !slices.Equal(summed, want) {
		t.Errorf("Total changed %v to %v", want, summed)
	}
	if n := fefo.Total(append(summed, take(1, 5))[:len(summed)]); n != 20 {
		t.Errorf("Total of takes with another one behind them: %d", n)
	}
}

// P1, P2: each call ends, at whatever it is given, and answers the same again, whatever was asked between.
func TestAgain(t *testing.T) {
	ask := func() (told []string) {
		d := dice(21)
		for range 3000 {
			var l []api.Lot
			var whichever []fefo.Take
			for range d.below(20) {
				l = append(l, api.Lot{ID: d.one(edges()...), Product: d.one(3, 3, 3, d.one(edges()...)), Units: d.one(1, 2, 3, maxUnits, d.one(1, d.one(edges()...))), Expiry: d.one(edges()...), Grant: d.one(edges()...), Order: d.one(edges()...), Status: api.Status(d.one(edges()...))})
				whichever = append(whichever, take(d.one(edges()...), d.one(edges()...)))
			}
			product, units := d.one(3, 3, 3, d.one(edges()...)), d.one(1, 5, 30, maxUnits+5, d.one(edges()...))
			want, wantE := pickByWords(l, product, units)
			picked, e := fefo.Pick(l, product, units)
			if e != wantE || !slices.Equal(picked, want) {
				t.Fatalf("%d of product %d of %v: %v, error %d, not %v, error %d", units, product, l, picked, e, want, wantE)
			}
			told = append(told, fmt.Sprint(fefo.Order(l), picked, e, fefo.Total(picked), fefo.Total(whichever)))
		}
		return told
	}
	first := ask()
	for range 2 {
		if again := ask(); !slices.Equal(again, first) {
			t.Fatal("asked again, another answer")
		}
	}
}
