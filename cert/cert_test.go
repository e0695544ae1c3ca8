package cert_test

import (
	"bytes"
	"encoding/binary"
	"encoding/hex"
	"fmt"
	"math"
	"slices"
	"strings"
	"testing"

	"hoarfrost/api"
	"hoarfrost/cert"
	"hoarfrost/check"
)

// What the words name: how many numbers a certificate has, how great they may be, and how many bytes it has.
const (
	places = 8
	most   = 1 << 62
	size   = 66
)

// made is a certificate of numbers, in the order in which they stand in api; numbers are those of one.
func made(n [places]int) api.Cert {
	return api.Cert{ID: n[0], Order: n[1], Lot: n[2], Product: n[3], Units: n[4], Minute: n[5], Exposure: n[6], Allowance: n[7]}
}

func numbers(c api.Cert) [places]int {
	return [places]int{c.ID, c.Order, c.Lot, c.Product, c.Units, c.Minute, c.Exposure, c.Allowance}
}

// of is one with an ID of its own, an exposure and an allowance; that in all else tells by its ID which one it is.
func of(id, exposure, allowance int) api.Cert {
	return made([places]int{id, 2 + id%64, 3 + id%256, 1 + id%16, 5 + id, 6 + 7*id, exposure, allowance})
}

// with is a certificate that has another number at a place.
func with(c api.Cert, place, n int) api.Cert {
	l := numbers(c)
	l[place] = n
	return made(l)
}

// withID is a certificate that has another ID.
func withID(c api.Cert, id int) api.Cert {
	c.ID = id
	return c
}

// dice tell numbers that look like any, the same in each run.
type dice uint64

func (d *dice) next() uint64 {
	*d = *d*6364136223846793005 + 1442695040888963407
	return uint64(*d^*d>>31) * 0x9e3779b97f4a7c15
}

func (d *dice) below(n int) int { return int((d.next() >> 1) % uint64(n)) }

func (d *dice) one(l ...int) int { return l[d.below(len(l))] }

// sized is a number from 0 to 2^62, of any size.
func (d *dice) sized() int { return int(d.next() >> (2 + d.below(62))) }

// cert is one that may be.
func (d *dice) cert() api.Cert {
	var n [places]int
	for at := range n {
		n[at] = d.one(d.sized(), d.below(300), d.one(may()...))
	}
	return made(n)
}

// may are numbers that a certificate may have: at the ends, all that have one bit, and some that have many.
func may() []int {
	l := []int{0, 3, 255, 257, 65535, 1<<20 - 1, 1<<32 - 1, 1<<32 + 1, 1<<53 + 1, 1<<61 + 1, most - 2, most - 1, most, 0x0102030405060708, 0x00ff00ff00ff00ff, 0x2aaaaaaaaaaaaaaa}
	for bit := range 62 {
		l = append(l, 1<<bit)
	}
	return l
}

// mayNot are numbers that none may have; many of them would be others, if a bit, or more, went away.
func mayNot() []int {
	l := []int{-1, -2, -3, -255, -256, -1 << 32, -1<<32 + 1, -most + 1, -most, -most - 1, math.MinInt, math.MinInt + 1, math.MinInt + 5, most + 1, most + 2, most + 3, most + 1<<32, most + 1<<61, math.MaxInt - 1, math.MaxInt}
	for bit := range 62 {
		l = append(l, most+1<<bit, math.MinInt+1<<bit, -1<<bit)
	}
	return l
}

// few are some certificates that may be.
func few() []api.Cert {
	return []api.Cert{
		{}, made([places]int{most, most, most, most, most, most, most, most}), made([places]int{1, 2, 3, 4, 5, 6, 7, 8}), made([places]int{8, 7, 6, 5, 4, 3, 2, 1}),
		made([places]int{7, 5, 9, 3, 20, 66051, 330, 120}), made([places]int{most, 0, most, 0, most, 0, most, 0}), made([places]int{0, most - 1, 0, most - 1, 0, most - 1, 0, most - 1}),
	}
}

// right are those, and such that have each number at each place, and others.
func right() []api.Cert {
	l := few()
	for place := range places {
		for _, n := range may() {
			l = append(l, with(api.Cert{}, place, n), with(few()[4], place, n), with(few()[1], place, n))
		}
	}
	d := dice(17)
	for range 1000 {
		l = append(l, d.cert())
	}
	return l
}

// wrong are certificates that may not be, for one number each.
func wrong() (l []api.Cert) {
	for place := range places {
		for _, n := range mayNot() {
			for _, c := range few() {
				l = append(l, with(c, place, n))
			}
		}
	}
	return l
}

// The words: each of these reckons what a call answers, as its words say it.

func mayBe(c api.Cert) bool {
	l := numbers(c)
	return slices.Min(l[:]) >= 0 && slices.Max(l[:]) <= most
}

// fields are the bytes of any numbers, ahead of their sum.
func fields(c api.Cert) (b []byte) {
	for _, n := range numbers(c) {
		b = binary.BigEndian.AppendUint64(b, uint64(n))
	}
	return b
}

func wordsBytes(c api.Cert) []byte { return check.Seal(fields(c)) }

func wordsCert(b []byte) (api.Cert, api.Errno) {
	switch {
	case len(b) != size:
		return api.Cert{}, api.ErrForm
	case !check.Good(b):
		return api.Cert{}, api.ErrSum
	}
	var l [places]int
	for place := range l {
		n := binary.BigEndian.Uint64(b[8*place:])
		if n > most {
			return api.Cert{}, api.ErrForm
		}
		l[place] = int(n)
	}
	return made(l), api.OK
}

// words is a book by the words.
type words struct{ certs []api.Cert }

func (w *words) issue(c api.Cert) (int, api.Errno) {
	if !mayBe(c) {
		return 0, api.ErrArg
	}
	id := 1
	for _, had := range w.certs {
		id = max(id, had.ID+1)
	}
	w.certs = append(w.certs, withID(c, id))
	return id, api.OK
}

func (w *words) cert(id int) (api.Cert, api.Errno) {
	for _, c := range w.certs {
		if c.ID == id {
			return c, api.OK
		}
	}
	return api.Cert{}, api.ErrNone
}

func (w *words) flagged(now []int) (ids []int) {
	known := map[int]int{}
	for i, exposure := range now {
		known[i+1] = exposure
	}
	for _, c := range w.certs {
		if exposure, there := known[c.ID]; there && exposure > c.Allowance {
			ids = append(ids, c.ID)
		}
	}
	return ids
}

// Each of these wants what is written out, and that it is so by the words.

func wantRight(t *testing.T, c api.Cert, want bool) {
	t.Helper()
	if mayBe(c) != want {
		t.Fatalf("%+v: by the words right %t", c, !want)
	}
	if cert.Right(c) != want {
		t.Fatalf("%+v: right %t", c, !want)
	}
}

func wantBytes(t *testing.T, c api.Cert, want []byte) {
	t.Helper()
	if b, e := cert.Encode(c); !bytes.Equal(b, want) || e != api.OK {
		t.Fatalf("Encode(%+v): %x, error %d, not %x", c, b, e, want)
	}
}

func wantCert(t *testing.T, b []byte, want api.Cert, wantE api.Errno) {
	t.Helper()
	if c, e := wordsCert(b); c != want || e != wantE {
		t.Fatalf("Decode(%x): by the words %+v, error %d, not %+v, %d", b, c, e, want, wantE)
	}
	if c, e := cert.Decode(b); c != want || e != wantE {
		t.Fatalf("Decode(%x): %+v, error %d, not %+v, %d", b, c, e, want, wantE)
	}
}

func wantNone(t *testing.T, b []byte, want api.Errno) {
	t.Helper()
	wantCert(t, b, api.Cert{}, want)
}

// wantWrong wants a certificate to be one that may not be, and what has its numbers, sealed, to be none's bytes.
func wantWrong(t *testing.T, c api.Cert) {
	t.Helper()
	wantRight(t, c, false)
	if b, e := cert.Encode(c); len(b) != 0 || e != api.ErrArg {
		t.Fatalf("Encode(%+v): %x, error %d", c, b, e)
	}
	wantNone(t, wordsBytes(c), api.ErrForm)
}

// wantThereAndBack wants a certificate to be that of its bytes, and these to be its.
func wantThereAndBack(t *testing.T, c api.Cert) {
	t.Helper()
	wantRight(t, c, true)
	wantBytes(t, c, wordsBytes(c))
	b, _ := cert.Encode(c)
	wantCert(t, b, c, api.OK)
}

// pair is a book, and the same by the words.
type pair struct {
	t *testing.T
	b *cert.Book
	w *words
}

func newPair(t *testing.T) pair { return pair{t: t, b: cert.New(), w: &words{}} }

func (p pair) issue(c api.Cert, want int, wantE api.Errno) {
	p.t.Helper()
	if id, e := p.w.issue(c); id != want || e != wantE {
		p.t.Fatalf("Issue(%+v): by the words %d, error %d, not %d, %d", c, id, e, want, wantE)
	}
	if id, e := p.b.Issue(c); id != want || e != wantE {
		p.t.Fatalf("Issue(%+v): %d, error %d, not %d, %d", c, id, e, want, wantE)
	}
}

func (p pair) cert(id int, want api.Cert, wantE api.Errno) {
	p.t.Helper()
	if c, e := p.w.cert(id); c != want || e != wantE {
		p.t.Fatalf("Cert(%d): by the words %+v, error %d, not %+v, %d", id, c, e, want, wantE)
	}
	if c, e := p.b.Cert(id); c != want || e != wantE {
		p.t.Fatalf("Cert(%d): %+v, error %d, not %+v, %d", id, c, e, want, wantE)
	}
}

func (p pair) flagged(now []int, want ...int) {
	p.t.Helper()
	if ids := p.w.flagged(now); !slices.Equal(ids, want) {
		p.t.Fatalf("Flagged(%v): by the words %v, not %v", now, ids, want)
	}
	if ids := p.b.Flagged(now); !slices.Equal(ids, want) {
		p.t.Fatalf("Flagged(%v): %v, not %v", now, ids, want)
	}
}

// all wants just these, and of each what Cert tells.
func (p pair) all(want ...api.Cert) {
	p.t.Helper()
	if !slices.Equal(p.w.certs, want) {
		p.t.Fatalf("All: by the words %v, not %v", p.w.certs, want)
	}
	p.same()
}

// same wants that the book has what it has by the words.
func (p pair) same() {
	p.t.Helper()
	if l := p.b.All(); !slices.Equal(l, p.w.certs) {
		p.t.Fatalf("All: %v, not %v", l, p.w.certs)
	}
	for id := -1; id <= len(p.w.certs)+2; id++ {
		want, wantE := p.w.cert(id)
		p.cert(id, want, wantE)
	}
}

// filled has certificates with these allowances.
func filled(t *testing.T, allowances ...int) pair {
	t.Helper()
	p := newPair(t)
	for i, n := range allowances {
		p.issue(of(1000+i, 0, n), i+1, api.OK)
	}
	return p
}

// edges are numbers at the ends, and some that would be others, if they wrapped round.
func edges() []int {
	return []int{math.MinInt, math.MinInt + 1, -most, -1 << 32, -1<<32 + 1, -2, -1, 0, 1, 2, 3, 4, 5, 6, 7, 255, 256, 257, 1 << 32, 1<<32 + 1, 1<<32 + 2, most - 1, most, most + 1, math.MaxInt - 1, math.MaxInt}
}

// P17.1, C1: certificates, and their bytes, one by one.
func TestKnownBytes(t *testing.T) {
	for _, x := range []struct {
		numbers [places]int
		bytes   string
	}{
		{[places]int{}, strings.Repeat("00", 64) + "d6da"},
		{[places]int{most, most, most, most, most, most, most, most}, strings.Repeat("4000000000000000", 8) + "2e9c"},
		{[places]int{1, 2, 3, 4, 5, 6, 7, 8}, "00000000000000010000000000000002000000000000000300000000000000040000000000000005000000000000000600000000000000070000000000000008fc4f"},
		{[places]int{7, 5, 9, 3, 20, 66051, 330, 120}, "000000000000000700000000000000050000000000000009000000000000000300000000000000140000000000010203000000000000014a0000000000000078da60"},
		{[places]int{0x0102030405060708, 0x1112131415161718, 0x2122232425262728, 0x3132333435363738, 0x0908070605040302, most - 1, most, 0x00ff00ff00ff00ff}, "010203040506070811121314151617182122232425262728313233343536373809080706050403023fffffffffffffff400000000000000000ff00ff00ff00ffe622"},
	} {
		b, err := hex.DecodeString(x.bytes)
		if err != nil || len(b) != size {
			t.Fatalf("%s: %d bytes, %v", x.bytes, len(b), err)
		}
		wantBytes(t, made(x.numbers), b)
		wantCert(t, b, made(x.numbers), api.OK)
	}
	first, _ := hex.DecodeString("00000000000000010000000000000002000000000000000300000000000000040000000000000005000000000000000600000000000000070000000000000008fc4f")
	wantCert(t, first, api.Cert{ID: 1, Order: 2, Lot: 3, Product: 4, Units: 5, Minute: 6, Exposure: 7, Allowance: 8}, api.OK)
	wantBytes(t, api.Cert{ID: 1, Order: 2, Lot: 3, Product: 4, Units: 5, Minute: 6, Exposure: 7, Allowance: 8}, first)
}

// P17.1, C1: each of the eight numbers alone stands at its own place in the bytes, the highest byte first.
func TestOrderOfNumbers(t *testing.T) {
	n := 0x0102030405060708
	for place, c := range []api.Cert{{ID: n}, {Order: n}, {Lot: n}, {Product: n}, {Units: n}, {Minute: n}, {Exposure: n}, {Allowance: n}} {
		want := make([]byte, 64)
		copy(want[8*place:], []byte{1, 2, 3, 4, 5, 6, 7, 8})
		wantBytes(t, c, check.Seal(want))
		wantCert(t, check.Seal(want), c, api.OK)
	}
}

// P17.1, C1: numbers from 0 to 2^62, in each of the eight places.
func TestRightCerts(t *testing.T) {
	for _, n := range []int{0, 1, most} {
		for place := range places {
			for _, c := range few() {
				wantThereAndBack(t, with(c, place, n))
			}
		}
	}
	for _, c := range right() {
		wantThereAndBack(t, c)
	}
}

// P17.1, C1: one number below 0, or above 2^62, in each of the eight places; bytes that are good, but have such a number, are none's.
func TestWrongCerts(t *testing.T) {
	for _, n := range []int{-1, most + 1, math.MinInt, math.MaxInt} {
		for place := range places {
			for _, c := range few() {
				wantWrong(t, with(c, place, n))
			}
		}
	}
	for _, c := range wrong() {
		wantWrong(t, c)
	}
}

// P17.1, C1: whether a certificate may be is asked of all numbers together.
func TestRightIsTheWords(t *testing.T) {
	d := dice(3)
	rights := 0
	for range 20000 {
		c := d.cert()
		for range d.below(3) {
			c = with(c, d.below(places), d.one(append(mayNot(), may()...)...))
		}
		if !mayBe(c) {
			wantWrong(t, c)
			continue
		}
		rights++
		wantThereAndBack(t, c)
	}
	if rights < 2000 || rights > 18000 {
		t.Errorf("%d of the certificates were right", rights)
	}
}

// P17.1, C1: bytes of each number but 66, none, 65 and 67 among them, whether they are good or not.
func TestNot66(t *testing.T) {
	wantNone(t, nil, api.ErrForm)
	wantNone(t, []byte{}, api.ErrForm)
	for n := range 200 {
		if n == size {
			continue
		}
		wantNone(t, make([]byte, n), api.ErrForm)
		wantNone(t, bytes.Repeat([]byte{255}, n), api.ErrForm)
		if n >= 2 {
			wantNone(t, check.Seal(make([]byte, n-2)), api.ErrForm)
			wantNone(t, check.Seal(bytes.Repeat([]byte{1}, n-2)), api.ErrForm)
		}
	}
	for _, n := range []int{1 << 16, 1<<16 + size, 1<<20 + size} {
		wantNone(t, make([]byte, n), api.ErrForm)
		wantNone(t, check.Seal(make([]byte, n-2)), api.ErrForm)
	}
}

// P17.1, C1: a certificate's bytes that lost one, or got one, or stand twice, be they sealed anew or not.
func TestOneMoreOneLess(t *testing.T) {
	for _, c := range few() {
		b := wordsBytes(c)
		for _, x := range [][]byte{b[:65], b[1:], append(bytes.Clone(b), 0), append([]byte{0}, b...), b[:64], b[:58], check.Seal(b), check.Seal(b[:63]), check.Seal(b[1:64]), check.Seal(append(fields(c), 0)), check.Seal(append([]byte{0}, fields(c)...)), check.Seal(fields(c)[:56]), append(bytes.Clone(b), b...), check.Seal(append(fields(c), fields(c)...))} {
			wantNone(t, x, api.ErrForm)
		}
	}
}

// P17.1, C1: of all last two bytes just the sum is not another one; that is asked ahead of what the numbers are.
func TestAnotherSum(t *testing.T) {
	for _, c := range []api.Cert{few()[0], few()[4], with(few()[4], 6, most+1), with(few()[2], 0, -1)} {
		b := wordsBytes(c)
		sum := binary.BigEndian.Uint16(b[64:])
		for n := range 1 << 16 {
			binary.BigEndian.PutUint16(b[64:], uint16(n))
			switch {
			case uint16(n) != sum:
				wantNone(t, b, api.ErrSum)
			case mayBe(c):
				wantCert(t, b, c, api.OK)
			default:
				wantNone(t, b, api.ErrForm)
			}
		}
	}
}

// P17.1, C1: which error, where two could be told: bytes that are not 66 ahead of a sum that is another one, and that ahead of a number that may not be.
func TestWhichError(t *testing.T) {
	for _, c := range wrong() {
		b := wordsBytes(c)
		b[65] ^= 1
		wantNone(t, b, api.ErrSum)
		wantNone(t, b[:65], api.ErrForm)
		wantNone(t, append(b, 0), api.ErrForm)
	}
	for _, c := range few() {
		b := wordsBytes(c)
		for i := range size {
			turned := bytes.Clone(b)
			turned[i] ^= 0x80
			wantNone(t, turned, api.ErrSum)
		}
	}
}

// P17.1, P17.2: each byte of a certificate's made each other one, sealed anew: what the bytes are is what the words tell.
func TestEachByte(t *testing.T) {
	for _, c := range []api.Cert{few()[1], few()[4]} {
		for i := range 64 {
			for x := range 256 {
				b := fields(c)
				b[i] = byte(x)
				b = check.Seal(b)
				want, wantE := wordsCert(b)
				wantCert(t, b, want, wantE)
				if wantE == api.OK {
					wantBytes(t, want, b)
				}
			}
		}
	}
}

// P17.2: a certificate that may be is that of its bytes; no two have the same.
func TestThereAndBack(t *testing.T) {
	had := map[string]api.Cert{}
	for _, c := range right() {
		b, e := cert.Encode(c)
		if e != api.OK || len(b) != size {
			t.Fatalf("Encode(%+v): %x, error %d", c, b, e)
		}
		if other, there := had[string(b)]; there && other != c {
			t.Fatalf("%+v and %+v have the same bytes %x", c, other, b)
		}
		had[string(b)] = c
		if back, e := cert.Decode(b); back != c || e != api.OK {
			t.Fatalf("%+v came back as %+v, error %d", c, back, e)
		}
	}
}

// P17.2: bytes that are a certificate's are its; what any bytes are is what the words tell.
func TestBackAndThere(t *testing.T) {
	d := dice(5)
	told := map[api.Errno]int{}
	for range 20000 {
		b := fields(d.cert())
		for range d.below(3) {
			b[d.below(64)] = byte(d.below(256))
		}
		b = check.Seal(b)
		if d.below(3) == 0 {
			b[d.below(size)] ^= byte(d.below(256))
		}
		want, wantE := wordsCert(b)
		wantCert(t, b, want, wantE)
		told[wantE]++
		if c, e := cert.Decode(b); e == api.OK {
			wantBytes(t, c, b)
		}
	}
	for _, e := range []api.Errno{api.OK, api.ErrSum, api.ErrForm} {
		if told[e] < 1000 {
			t.Errorf("just %d of the bytes were %d", told[e], e)
		}
	}
}

// turn turns those bits of bytes, from their i-th on, that are set in a burst, its lowest bit first; of each byte either the highest bit is the first one, or the lowest.
func turn(b []byte, i int, burst uint, lowest bool) {
	for ; burst != 0; burst, i = burst>>1, i+1 {
		place := 7 - i%8
		if lowest {
			place = i % 8
		}
		b[i/8] ^= byte(burst&1) << place
	}
}

// wantBursts wants all bursts of bytes that begin at a bit to be told by the sum.
func wantBursts(t *testing.T, b []byte, i int, lowest bool) {
	for burst := uint(1); burst < 1<<min(16, 8*size-i); burst += 2 {
		turn(b, i, burst, lowest)
		if c, e := cert.Decode(b); e != api.ErrSum || c != (api.Cert{}) {
			t.Fatalf("burst %x at bit %d: Decode(%x): %+v, error %d", burst, i, b, c, e)
		}
		turn(b, i, burst, lowest)
	}
}

// P17.3: all bursts of a certificate's bytes, at all places; where the lowest bit of a byte is called its first one, at each seventh, so that each bit of a byte is among them.
func TestAllBursts(t *testing.T) {
	for two := range size / 2 {
		t.Run(fmt.Sprintf("from byte %d on", 2*two), func(t *testing.T) {
			t.Parallel()
			c := few()[4]
			b := wordsBytes(c)
			for i := 16 * two; i < 16*(two+1); i++ {
				wantBursts(t, b, i, false)
				if i%7 == 0 {
					wantBursts(t, b, i, true)
				}
			}
			wantCert(t, b, c, api.OK)
		})
	}
}

// P17.3: in many certificates' bytes each bit, each two bits, and some bursts, at each place, in both orders of a byte's bits.
func TestBurstsOfMany(t *testing.T) {
	t.Parallel()
	bursts := []uint{1, 0xffff, 0x8001, 0x8811, 0x1021, 0x8408, 0x8005, 0xff, 0xff00}
	for two := uint(3); two < 1<<16; two = two<<1 - 1 {
		bursts = append(bursts, two)
	}
	all := right()
	for n := 0; n < len(all); n += 97 {
		b, e := cert.Encode(all[n])
		if e != api.OK {
			t.Fatalf("Encode(%+v): error %d", all[n], e)
		}
		for i := range 8 * size {
			for _, burst := range bursts {
				if burst >= 1<<min(16, 8*size-i) {
					continue
				}
				for _, lowest := range []bool{false, true} {
					turn(b, i, burst, lowest)
					wantNone(t, b, api.ErrSum)
					turn(b, i, burst, lowest)
				}
			}
		}
		wantCert(t, b, all[n], api.OK)
	}
}

// P17.1, C2: a new book has no certificates; nor has a book that nobody made.
func TestNew(t *testing.T) {
	var book cert.Book
	for _, p := range []pair{newPair(t), {t: t, b: &book, w: &words{}}} {
		p.all()
		for _, id := range edges() {
			p.cert(id, api.Cert{}, api.ErrNone)
		}
		p.flagged(nil)
		p.flagged(edges())
		p.all()
		p.issue(of(9, 3, 4), 1, api.OK)
		p.all(withID(of(9, 3, 4), 1))
	}
	if one, other := cert.New(), cert.New(); one == nil || one == other {
		t.Error("New answers no book, or one book twice")
	}
}

// P17.1, C2: IDs are 1, 2, and so on, of many certificates, also of such as are alike.
func TestIssueMany(t *testing.T) {
	p := newPair(t)
	var l []api.Cert
	for i := range 600 {
		c := of(3*i, i*i, 5*i)
		if i%3 == 2 {
			c = few()[4]
		}
		if id, e := p.b.Issue(c); id != i+1 || e != api.OK {
			t.Fatalf("Issue(%+v): %d, error %d", c, id, e)
		}
		l = append(l, withID(c, i+1))
		p.w.certs = l
		if i < 20 || i%97 == 0 || i == 599 {
			p.all(l...)
		}
	}
	for _, id := range []int{1, 2, 3, 255, 256, 257, 599, 600} {
		p.cert(id, l[id-1], api.OK)
	}
	for _, id := range []int{601, 602, 0, -1, -600, 1 << 32, 1<<32 + 1, -1<<32 + 1, math.MinInt, math.MinInt + 1, math.MaxInt, most} {
		p.cert(id, api.Cert{}, api.ErrNone)
	}
}

// P17.1, C2: whatever ID a certificate has, that may be, the book puts its own in its place.
func TestOwnID(t *testing.T) {
	p := newPair(t)
	var l []api.Cert
	for i, id := range append([]int{7, 1, 1, 0, 2, 3, most, most - 1, 1 << 32, 5}, may()...) {
		c := withID(of(i, 70+i, 80), id)
		p.issue(c, i+1, api.OK)
		l = append(l, withID(c, i+1))
		p.all(l...)
	}
	d := dice(8)
	for range 200 {
		c := d.cert()
		p.issue(c, len(l)+1, api.OK)
		l = append(l, withID(c, len(l)+1))
	}
	p.all(l...)
}

// P17.1, C2: a certificate that may not be, for any of its numbers, its own ID too, is refused, and leaves the book as it was.
func TestRefused(t *testing.T) {
	for _, p := range []pair{newPair(t), filled(t, 10), filled(t, 10, 20, 30)} {
		had := slices.Clone(p.w.certs)
		now := []int{11, 20, 31}
		flagged := p.w.flagged(now)
		for _, c := range wrong() {
			p.issue(c, 0, api.ErrArg)
		}
		for _, id := range []int{-1, most + 1, math.MinInt, math.MaxInt} {
			p.issue(withID(of(1, 2, 3), id), 0, api.ErrArg)
			p.issue(withID(api.Cert{}, id), 0, api.ErrArg)
		}
		p.all(had...)
		p.flagged(now, flagged...)
		p.issue(of(5, 6, 7), len(had)+1, api.OK)
		p.all(append(had, withID(of(5, 6, 7), len(had)+1))...)
	}
}

// P17.1, C2: Cert of each ID, of 0, below it, the greatest one, one more, and at the ends of int.
func TestCert(t *testing.T) {
	for n := range 7 {
		p := filled(t, []int{5, 0, most, 7, 1, 9}[:n]...)
		for _, id := range edges() {
			if id < 1 || id > n {
				p.cert(id, api.Cert{}, api.ErrNone)
			} else {
				p.cert(id, withID(of(999+id, 0, []int{5, 0, most, 7, 1, 9}[id-1]), id), api.OK)
			}
		}
		p.same()
	}
}

// P17.1, C2: exposures that are just the allowance, one more, one less, below 0, and at the ends of int, of allowances at their ends.
func TestFlaggedOne(t *testing.T) {
	for _, allowance := range []int{0, 1, 2, 100, 1 << 32, most - 1, most} {
		p := filled(t, allowance)
		for _, exposure := range append(edges(), allowance-1, allowance, allowance+1) {
			if exposure > allowance {
				p.flagged([]int{exposure}, 1)
			} else {
				p.flagged([]int{exposure})
			}
		}
	}
	p := filled(t, 100)
	p.flagged([]int{99})
	p.flagged([]int{100})
	p.flagged([]int{101}, 1)
	p.flagged([]int{-101})
	p.flagged([]int{math.MinInt})
	p.flagged([]int{math.MaxInt}, 1)
}

// P17.1, C2: exposures of none, of fewer than there are certificates, of just as many, of more.
func TestFlaggedHowMany(t *testing.T) {
	p := filled(t, 10, 20, 0, 40, most)
	p.flagged(nil)
	p.flagged([]int{})
	p.flagged([]int{11}, 1)
	p.flagged([]int{10})
	p.flagged([]int{11, 20}, 1)
	p.flagged([]int{10, 21}, 2)
	p.flagged([]int{11, 21, 1, 41}, 1, 2, 3, 4)
	p.flagged([]int{10, 20, 0, 40, most})
	p.flagged([]int{11, 21, 1, 41, most + 1}, 1, 2, 3, 4, 5)
	p.flagged([]int{0, 99, -1, 99, 99}, 2, 4)
	p.flagged([]int{0, 0, 0, 0, 0, 99}, []int{}...)
	p.flagged([]int{0, 0, 1, 0, 0, 99, 99, math.MaxInt}, 3)
	p.flagged(slices.Repeat([]int{math.MaxInt}, 1000), 1, 2, 3, 4, 5)
	for n := range 5 {
		p.flagged(slices.Repeat([]int{math.MaxInt}, n), []int{1, 2, 3, 4, 5}[:n]...)
	}
	p.same()
}

// P17.1, C2: it is the allowance that flags, by what is known now: no other number does, not the exposure that the certificate tells, nor its own ID.
func TestFlaggedByAllowanceAlone(t *testing.T) {
	p := newPair(t)
	p.issue(of(3, 500, 10), 1, api.OK)
	p.issue(of(1, 0, 300), 2, api.OK)
	p.issue(of(2, most, most), 3, api.OK)
	p.flagged([]int{5, 299, 400})
	p.flagged([]int{10, 300, most})
	p.flagged([]int{11, 300, 0}, 1)
	p.flagged([]int{0, 301, 0}, 2)
	p.flagged([]int{0, 0, most + 1}, 3)
	p.flagged([]int{5, 299, 400})
	p.same()
}

// P17.1, C1, C2, rule 8: a nil book answers ErrArg, ahead of all else, and nothing.
func TestNilBook(t *testing.T) {
	var b *cert.Book
	for _, c := range append(few(), wrong()...) {
		if id, e := b.Issue(c); id != 0 || e != api.ErrArg {
			t.Errorf("Issue(%+v): %d, error %d", c, id, e)
		}
	}
	for _, id := range edges() {
		if c, e := b.Cert(id); c != (api.Cert{}) || e != api.ErrArg {
			t.Errorf("Cert(%d): %+v, error %d", id, c, e)
		}
	}
	if l := b.All(); len(l) != 0 {
		t.Errorf("All: %v", l)
	}
	for _, now := range [][]int{nil, {}, {1}, edges()} {
		if ids := b.Flagged(now); len(ids) != 0 {
			t.Errorf("Flagged(%v): %v", now, ids)
		}
	}
}

// P17.1: long ways, of any calls: behind each of them the book has what it has by the words.
func TestLongWays(t *testing.T) {
	for seed := range 40 {
		d := dice(seed)
		p := newPair(t)
		for range 300 {
			switch d.below(3) {
			case 0:
				c := d.cert()
				if d.below(3) == 0 {
					c = with(c, d.below(places), d.one(mayNot()...))
				}
				id, wantE := p.w.issue(c)
				if got, e := p.b.Issue(c); got != id || e != wantE {
					t.Fatalf("Issue(%+v): %d, error %d, not %d, %d", c, got, e, id, wantE)
				}
			case 1:
				id := d.one(d.below(len(p.w.certs)+3)-1, d.one(edges()...))
				want, wantE := p.w.cert(id)
				p.cert(id, want, wantE)
			default:
				now := exposures(&d, p.w.certs)
				p.flagged(now, p.w.flagged(now)...)
			}
			if l := p.b.All(); !slices.Equal(l, p.w.certs) {
				t.Fatalf("All: %v, not %v", l, p.w.certs)
			}
		}
		p.same()
	}
}

// exposures are any, of any number of certificates, many of them near to their allowances.
func exposures(d *dice, l []api.Cert) (now []int) {
	for _, c := range l[:d.below(len(l)+1)] {
		now = append(now, d.one(c.Allowance-1, c.Allowance, c.Allowance+1, c.Exposure, d.one(edges()...)))
	}
	for range d.below(3) * d.below(4) {
		now = append(now, d.one(edges()...))
	}
	return now
}

// roomy are the same bytes, with others behind their length in their memory.
func roomy(b, behind []byte) []byte {
	return slices.Concat(b, behind)[:len(b)]
}

// spoil turns all bits of bytes, and of what lies behind them in their memory.
func spoil(b []byte) {
	for i := range b[:cap(b)] {
		b[:cap(b)][i] ^= 255
	}
}

// some are bytes of many kinds: certificates', and none's.
func some() [][]byte {
	l := [][]byte{nil, {}, []byte("hoarfrost!"), check.Seal(make([]byte, 64)), make([]byte, 66), wordsBytes(wrong()[0])}
	for _, c := range few() {
		b := wordsBytes(c)
		turned := bytes.Clone(b)
		turned[4] ^= 32
		l = append(l, b, b[:65], b[:40], turned)
	}
	return l
}

// Rule 4: bytes that are handed in stay as they were, and so does what lies behind them; that makes no difference.
func TestBytesHandedInStay(t *testing.T) {
	for _, b := range some() {
		want, wantE := wordsCert(b)
		for _, behind := range [][]byte{nil, {0xaa}, make([]byte, 80), b, wordsBytes(few()[2]), wordsBytes(few()[4])[min(len(b), 66):]} {
			room := roomy(b, behind)
			whole := bytes.Clone(room[:cap(room)])
			if c, e := cert.Decode(room); c != want || e != wantE {
				t.Errorf("Decode(%x), with %x behind: %+v, error %d, not %+v, %d", b, behind, c, e, want, wantE)
			}
			if !bytes.Equal(room[:cap(room)], whole) {
				t.Errorf("%x was changed: %x", whole, room[:cap(room)])
			}
		}
	}
}

// Rule 4: bytes that are answered are new, each time: they may be spoilt, and changed behind their end; no book has them.
func TestBytesAreNew(t *testing.T) {
	p := newPair(t)
	for i, c := range few() {
		p.issue(c, i+1, api.OK)
		first, _ := cert.Encode(c)
		second, _ := cert.Encode(c)
		back, _ := cert.Decode(first)
		spoil(first)
		_ = append(first[:64], 9, 9)
		if !bytes.Equal(second, wordsBytes(c)) || back != c {
			t.Errorf("%+v shares its bytes: %x, %+v", c, second, back)
		}
		wantBytes(t, c, wordsBytes(c))
		p.same()
	}
	kept, _ := p.b.Cert(3)
	b, _ := cert.Encode(kept)
	spoil(b)
	p.same()
}

// Rule 4: what All answers is new memory, each time; to write into it, or behind it, changes no book, and no call changes it.
func TestAllIsNew(t *testing.T) {
	p := filled(t, 1, 2, 3, 4, 5)
	had := slices.Clone(p.w.certs)
	first, second := p.b.All(), p.b.All()
	for i := range first[:cap(first)] {
		first[:cap(first)][i] = of(-7, -7, -7)
	}
	p.all(had...)
	if !slices.Equal(second, had) {
		t.Errorf("the other answer is %v", second)
	}
	grown := append(second, of(-7, -7, -7))
	p.issue(of(6, 6, 6), 6, api.OK)
	p.issue(of(7, 7, 7), 7, api.OK)
	if grown[5] != of(-7, -7, -7) || !slices.Equal(second, had) {
		t.Errorf("a call changed what was answered: %v", grown)
	}
	c, e := p.b.Cert(6)
	c.Allowance = -7
	if e != api.OK || c == (api.Cert{}) {
		t.Errorf("Cert(6): error %d", e)
	}
	p.all(append(had, withID(of(6, 6, 6), 6), withID(of(7, 7, 7), 7))...)
}

// Rule 4: exposures that are handed in stay as they were, are not kept, and what lies behind them is not looked at; what Flagged answers is new memory.
func TestFlaggedIsNew(t *testing.T) {
	p := filled(t, 10, 20, 30, 40)
	memory := []int{11, 21, 30, 41, 99, 99}
	was := slices.Clone(memory)
	p.flagged(memory[:2], 1, 2)
	p.flagged(memory[:0])
	p.flagged(memory[:4], 1, 2, 4)
	first, second := p.b.Flagged(memory[:4]), p.b.Flagged(memory[:4])
	if !slices.Equal(memory, was) {
		t.Errorf("what was handed in is %v", memory)
	}
	for i := range memory {
		memory[i] = 0
	}
	for i := range first[:cap(first)] {
		first[:cap(first)][i] = -7
	}
	if !slices.Equal(second, []int{1, 2, 4}) || !slices.Equal(memory, make([]int, 6)) {
		t.Errorf("the other answer is %v, what was handed in %v", second, memory)
	}
	grown := append(second, -7)
	p.flagged(was, 1, 2, 4)
	p.flagged(nil)
	p.issue(of(1, 2, 3), 5, api.OK)
	if !slices.Equal(grown, []int{1, 2, 4, -7}) {
		t.Errorf("a call changed what was answered: %v", grown)
	}
	p.same()
}

// P2: two books go their own ways.
func TestBooksAreApart(t *testing.T) {
	one, other := filled(t, 10, 20), filled(t, 30)
	one.issue(of(3, 3, 3), 3, api.OK)
	other.issue(of(4, 4, 4), 2, api.OK)
	one.flagged([]int{11, 21, 4}, 1, 2, 3)
	other.flagged([]int{11, 21, 4}, 2)
	one.same()
	other.same()
}

// P1, P2: each call ends, at whatever it is given, and answers the same again, whatever was asked between.
func TestAgain(t *testing.T) {
	ask := func() (told []string) {
		d := dice(21)
		b := cert.New()
		for range 2000 {
			c := d.cert()
			for range d.below(2) {
				c = with(c, d.below(places), d.one(mayNot()...))
			}
			bytes, e := cert.Encode(c)
			back, backE := cert.Decode(wordsBytes(c)[d.one(0, 0, 0, 1):])
			id, idE := b.Issue(c)
			had, hadE := b.Cert(d.one(id, d.below(2000)-1, d.one(edges()...)))
			told = append(told, fmt.Sprint(cert.Right(c), bytes, e, back, backE, id, idE, had, hadE, b.Flagged(edges()), len(b.All())))
		}
		return told
	}
	first := ask()
	for range 2 {
		if again := ask(); !slices.Equal(again, first) {
			t.Fatal("asked again, another answer")
		}
	}
}
