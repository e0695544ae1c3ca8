package octets_test

import (
	"bytes"
	"math"
	"math/big"
	"slices"
	"strconv"
	"testing"

	"hoarfrost/api"
	"hoarfrost/octets"
)

// thing is something that may be written, and read.
type thing struct {
	name  string
	bytes []byte // what the words make of it
	write func(w *octets.Writer)
	same  func(r *octets.Reader) bool // reads one of its kind: is it this one?
	none  func(r *octets.Reader) bool // reads one of its kind: is it 0, false, nothing?
}

// highestFirst are the bytes of a whole number of so many bytes, reckoned without an end.
func highestFirst(n *big.Int, size int) []byte {
	return n.FillBytes(make([]byte, size))
}

func num(n uint64, size int) thing {
	return thing{
		name:  "Num " + strconv.FormatUint(n, 10) + " of size " + strconv.Itoa(size),
		bytes: highestFirst(new(big.Int).SetUint64(n), size),
		write: func(w *octets.Writer) { w.Num(n, size) },
		same:  func(r *octets.Reader) bool { return r.Num(size) == n },
		none:  func(r *octets.Reader) bool { return r.Num(size) == 0 },
	}
}

func integer(n int) thing {
	whole := big.NewInt(int64(n))
	if n < 0 {
		whole.Add(whole, new(big.Int).Lsh(big.NewInt(1), 64))
	}
	return thing{
		name:  "Int " + strconv.Itoa(n),
		bytes: highestFirst(whole, 8),
		write: func(w *octets.Writer) { w.Int(n) },
		same:  func(r *octets.Reader) bool { return r.Int() == n },
		none:  func(r *octets.Reader) bool { return r.Int() == 0 },
	}
}

func boolean(x bool) thing {
	b := []byte{0}
	if x {
		b[0] = 1
	}
	return thing{
		name:  "Bool " + strconv.FormatBool(x),
		bytes: b,
		write: func(w *octets.Writer) { w.Bool(x) },
		same:  func(r *octets.Reader) bool { return r.Bool() == x },
		none:  func(r *octets.Reader) bool { return !r.Bool() },
	}
}

func run(b []byte) thing {
	return thing{
		name:  "Run of " + strconv.Itoa(len(b)),
		bytes: slices.Concat(highestFirst(big.NewInt(int64(len(b))), 4), b),
		write: func(w *octets.Writer) { w.Run(b) },
		same:  func(r *octets.Reader) bool { return bytes.Equal(r.Run(), b) },
		none:  func(r *octets.Reader) bool { return len(r.Run()) == 0 },
	}
}

// spread are n numbers of all sizes, the same in each run.
func spread(n int) []uint64 {
	l, x := make([]uint64, n), uint64(7)
	for i := range l {
		x = x*6364136223846793005 + 1442695040888963407
		l[i] = (x ^ x>>31) * 0x9e3779b97f4a7c15 >> (i % 64)
	}
	return l
}

// some are n bytes of all kinds, the same in each run.
func some(n int) []byte {
	b := make([]byte, n)
	for i, x := range spread(n) {
		b[i] = byte(x >> (63 - i%64) * 251 / 2)
		b[i] ^= byte(i)
	}
	return b
}

// sizes are those of numbers.
func sizes() []int { return []int{1, 2, 3, 4, 5, 6, 7, 8} }

// noSizes are no number's; some would be, if they wrapped round.
func noSizes() []int {
	return []int{0, -1, -2, -7, -8, -9, 9, 10, 11, 15, 16, 17, 63, 64, 65, 255, 256, 257, 264, 1 << 16, 1<<16 + 1, 1<<31 - 1, 1 << 31, 1 << 32, 1<<32 + 1, 1<<32 + 8, -1<<32 + 4, 1<<61 + 1, 1<<62 + 2, math.MaxInt, math.MinInt, math.MinInt + 1}
}

// greatest is the greatest number of a size.
func greatest(size int) uint64 {
	return math.MaxUint64 >> (64 - 8*size)
}

// nums are numbers of a size: its edges, those at each bit, and others.
func nums(size int) []thing {
	l := []thing{num(0, size), num(1, size), num(greatest(size)-1, size), num(greatest(size), size), num(0x0123456789abcdef>>(64-8*size), size)}
	for bit := range 8 * size {
		l = append(l, num(1<<bit, size), num(1<<bit-1, size), num(greatest(size)-1<<bit, size))
	}
	for _, n := range spread(64) {
		l = append(l, num(n&greatest(size), size))
	}
	return l
}

// ints are numbers with their signs: the edges, those at each bit, and others.
func ints() (l []thing) {
	for _, n := range []int{0, 1, -1, 2, -2, 127, 128, -128, -129, 255, 256, -255, -256, -257, math.MaxInt, math.MaxInt - 1, math.MinInt, math.MinInt + 1, api.Most, -api.Most, api.Top, -api.Top} {
		l = append(l, integer(n))
	}
	for bit := range 63 {
		l = append(l, integer(1<<bit), integer(-1<<bit), integer(1<<bit-1), integer(-1<<bit-1))
	}
	for _, n := range spread(128) {
		l = append(l, integer(int(n)), integer(-int(n)))
	}
	return l
}

// runs are bytes: none, all single ones, all up to some length, and many.
func runs() []thing {
	l := []thing{run(nil), run([]byte{}), run([]byte("hoarfrost")), run([]byte{0, 0, 0, 5}), run(bytes.Repeat([]byte{255}, 40))}
	for x := range 256 {
		l = append(l, run([]byte{byte(x)}))
	}
	for n := range 70 {
		l = append(l, run(some(n)), run(make([]byte, n)))
	}
	for _, n := range []int{255, 256, 257, 65535, 65536, 65537, 1<<20 + 3} {
		l = append(l, run(some(n)))
	}
	return l
}

// things are some of each kind.
func things() []thing {
	l := append(ints(), runs()...)
	for _, size := range sizes() {
		l = append(l, nums(size)...)
	}
	return append(l, boolean(false), boolean(true))
}

// few are some short ones of each kind, that differ, and are not nothing.
func few() []thing {
	l := []thing{integer(-1), integer(1 << 40), integer(math.MinInt), integer(math.MaxInt), boolean(true), run([]byte{9}), run([]byte("frost")), run([]byte{0, 0, 0, 0, 0, 0})}
	for _, size := range sizes() {
		l = append(l, num(1, size), num(greatest(size), size), num(greatest(size)/255, size))
	}
	return l
}

// mixed are n things, one behind the other, of all kinds.
func mixed(n int) []thing {
	l := make([]thing, n)
	for i, x := range spread(n) {
		size := 1 + i/4%8
		switch int(x%5+uint64(i)) % 4 {
		case 0:
			l[i] = num(x&greatest(size), size)
		case 1:
			l[i] = integer(int(x) * (1 - i%3))
		case 2:
			l[i] = boolean(x>>3%2 == 1)
		default:
			l[i] = run(some(int(x>>2) % 23 & 31))
		}
	}
	return l
}

// roomy are the same bytes, with others behind their length in their memory.
func roomy(b []byte) []byte {
	whole := append(bytes.Clone(b), 0xaa, 0xbb, 0xcc, 0xdd, 0xee, 1, 1, 1, 1)
	return whole[:len(b)]
}

// spoil turns all bits of bytes, and of what lies behind them in their memory.
func spoil(b []byte) {
	b = b[:cap(b)]
	for i := range b {
		b[i] ^= 255
	}
}

// short are the first of bytes, to be told of.
func short(b []byte) []byte { return b[:min(len(b), 24)] }

// written is a writer to which things were written, and what the words make of them.
func written(l ...thing) (*octets.Writer, []byte) {
	w, all := octets.NewWriter(), []byte{}
	for _, x := range l {
		x.write(w)
		all = append(all, x.bytes...)
	}
	return w, all
}

func wantBytes(t *testing.T, what string, w *octets.Writer, want []byte) {
	t.Helper()
	if got, e := w.Done(); e != api.OK || !bytes.Equal(got, want) {
		t.Errorf("%s: %d bytes, %x, error %d, not %d, %x", what, len(got), short(got), e, len(want), short(want))
	}
}

// wantRefused wants a writer's error, and no bytes beside it, however often it is asked.
func wantRefused(t *testing.T, what string, w *octets.Writer) {
	t.Helper()
	for range 2 {
		if got, e := w.Done(); e != api.ErrArg || len(got) != 0 {
			t.Errorf("%s: %d bytes, %x, error %d", what, len(got), short(got), e)
		}
	}
}

func wantLeft(t *testing.T, what string, r *octets.Reader, want int) {
	t.Helper()
	if got := r.Left(); got != want {
		t.Errorf("%s: %d bytes are left, not %d", what, got, want)
	}
}

func wantDone(t *testing.T, what string, r *octets.Reader, want api.Errno) {
	t.Helper()
	if got := r.Done(); got != want {
		t.Errorf("%s: error %d, not %d", what, got, want)
	}
}

// wantOver wants a reader's error, behind which each answer is nothing, and no other error comes.
func wantOver(t *testing.T, what string, r *octets.Reader, e api.Errno) {
	t.Helper()
	wantLeft(t, what, r, 0)
	wantDone(t, what, r, e)
	for _, size := range append(sizes(), 0, 9, -1) {
		if n := r.Num(size); n != 0 {
			t.Errorf("%s, behind the error: Num(%d) %d", what, size, n)
		}
	}
	if n, x, b := r.Int(), r.Bool(), r.Run(); n != 0 || x || len(b) != 0 {
		t.Errorf("%s, behind the error: %d, %t, %x", what, n, x, b)
	}
	wantLeft(t, what, r, 0)
	wantDone(t, what, r, e)
}

// P4.1, O1: things, and their bytes, one by one.
func TestKnownBytes(t *testing.T) {
	for _, c := range []struct {
		x    thing
		want string
	}{
		{num(0, 1), "\x00"}, {num(255, 1), "\xff"}, {num(0x1234, 2), "\x12\x34"}, {num(5, 3), "\x00\x00\x05"}, {num(0x01020304, 4), "\x01\x02\x03\x04"},
		{num(1<<32, 5), "\x01\x00\x00\x00\x00"}, {num(1, 6), "\x00\x00\x00\x00\x00\x01"}, {num(1<<56-2, 7), "\xff\xff\xff\xff\xff\xff\xfe"},
		{num(0x0123456789abcdef, 8), "\x01\x23\x45\x67\x89\xab\xcd\xef"}, {num(math.MaxUint64, 8), "\xff\xff\xff\xff\xff\xff\xff\xff"},
		{integer(0), "\x00\x00\x00\x00\x00\x00\x00\x00"}, {integer(52), "\x00\x00\x00\x00\x00\x00\x00\x34"}, {integer(-1), "\xff\xff\xff\xff\xff\xff\xff\xff"}, {integer(-2), "\xff\xff\xff\xff\xff\xff\xff\xfe"},
		{integer(math.MaxInt), "\x7f\xff\xff\xff\xff\xff\xff\xff"}, {integer(math.MinInt), "\x80\x00\x00\x00\x00\x00\x00\x00"},
		{boolean(false), "\x00"}, {boolean(true), "\x01"},
		{run(nil), "\x00\x00\x00\x00"}, {run([]byte{}), "\x00\x00\x00\x00"}, {run([]byte("hoar")), "\x00\x00\x00\x04hoar"}, {run(make([]byte, 3)), "\x00\x00\x00\x03\x00\x00\x00"},
	} {
		w, _ := written(c.x)
		wantBytes(t, c.x.name, w, []byte(c.want))
		r := octets.NewReader([]byte(c.want))
		if !c.x.same(r) {
			t.Errorf("%s is not read from %q", c.x.name, c.want)
		}
		wantLeft(t, c.x.name, r, 0)
		wantDone(t, c.x.name, r, api.OK)
	}
}

// P4.1, O1: each thing's bytes are those of the words.
func TestWrittenAlone(t *testing.T) {
	for _, x := range things() {
		w, want := written(x)
		wantBytes(t, x.name, w, want)
	}
}

// P4.1, O2: each thing is read from the bytes of the words, and nothing is left.
func TestReadAlone(t *testing.T) {
	for _, x := range things() {
		r := octets.NewReader(x.bytes)
		wantLeft(t, x.name, r, len(x.bytes))
		if !x.same(r) {
			t.Errorf("%s is not read", x.name)
		}
		wantLeft(t, x.name, r, 0)
		wantDone(t, x.name, r, api.OK)
	}
}

// P4.1, O1: a number that doesn't fit: one more than the greatest of a size, and others above it.
func TestNumThatDoesNotFit(t *testing.T) {
	for _, size := range sizes()[:7] {
		most := greatest(size)
		for _, n := range []uint64{most + 1, most + 2, 2*most + 2, (most + 1) * 255, math.MaxUint64 - most, math.MaxUint64 - 1, math.MaxUint64, 1 << 63} {
			what := "Num " + strconv.FormatUint(n, 10) + " of size " + strconv.Itoa(size)
			w := octets.NewWriter()
			w.Num(n, size)
			wantRefused(t, what, w)
			w, _ = written(few()...)
			w.Num(n, size)
			wantRefused(t, what+", behind others", w)
		}
	}
}

// P4.1, O1, O2: sizes that are none, of numbers great and small, and with bytes to read, and without.
func TestNoSize(t *testing.T) {
	for _, size := range noSizes() {
		what := "size " + strconv.Itoa(size)
		for _, n := range []uint64{0, 1, 255, math.MaxUint64} {
			w := octets.NewWriter()
			w.Num(n, size)
			wantRefused(t, what, w)
		}
		for _, b := range [][]byte{nil, {1}, some(8), some(300)} {
			r := octets.NewReader(b)
			if n := r.Num(size); n != 0 {
				t.Errorf("%s: read %d", what, n)
			}
			wantOver(t, what, r, api.ErrArg)
		}
	}
}

// P4.1, O1: without anything written there are no bytes, and no error.
func TestNothingWritten(t *testing.T) {
	wantBytes(t, "nothing", octets.NewWriter(), nil)
}

// P4.1, O1: Done is asked as often as one likes, and tells all each time; what is written then comes behind.
func TestDoneBetween(t *testing.T) {
	w, all := octets.NewWriter(), []byte{}
	for _, x := range mixed(200) {
		x.write(w)
		all = append(all, x.bytes...)
		wantBytes(t, x.name, w, all)
		wantBytes(t, x.name+", again", w, all)
	}
}

// P4.1, O1: behind an error nothing is written any more, whatever comes, and the error stays.
func TestWrittenBehindAnError(t *testing.T) {
	for _, spoilt := range []func(w *octets.Writer){
		func(w *octets.Writer) { w.Num(256, 1) }, func(w *octets.Writer) { w.Num(0, 0) }, func(w *octets.Writer) { w.Num(1, 9) }, func(w *octets.Writer) { w.Num(1<<56, 7) },
	} {
		for _, before := range [][]thing{nil, few()} {
			w, _ := written(before...)
			spoilt(w)
			wantRefused(t, "an error", w)
			for _, x := range few() {
				x.write(w)
				wantRefused(t, x.name+" behind an error", w)
			}
			spoilt(w)
			wantRefused(t, "two errors", w)
		}
	}
}

// P4.1, O2: a byte that is neither 0 nor 1 is no Bool.
func TestNoBool(t *testing.T) {
	for x := 2; x < 256; x++ {
		what := "Bool " + strconv.Itoa(x)
		for _, behind := range [][]byte{nil, {1}, some(20)} {
			r := octets.NewReader(append([]byte{byte(x)}, behind...))
			if r.Bool() {
				t.Errorf("%s: true", what)
			}
			wantOver(t, what, r, api.ErrForm)
		}
	}
}

// P4.1, O2: bytes that end within a thing, ahead of it, or in it, are no such thing's.
func TestBytesEndWithin(t *testing.T) {
	for _, x := range append(few(), boolean(false), num(0, 1), num(0, 8), integer(0), run(nil), run(some(300))) {
		for n := range x.bytes {
			what := x.name + ", " + strconv.Itoa(n) + " bytes of it"
			r := octets.NewReader(x.bytes[:n])
			if !x.none(r) {
				t.Errorf("%s: something is read", what)
			}
			wantOver(t, what, r, api.ErrForm)
			r = octets.NewReader(slices.Concat([]byte{1}, x.bytes[:n]))
			if !r.Bool() || !x.none(r) {
				t.Errorf("%s, behind a Bool: something is read", what)
			}
			wantOver(t, what+", behind a Bool", r, api.ErrForm)
		}
	}
}

// P4.1, O2: a Run that would have more bytes than there are, many more among them.
func TestRunIsTooLong(t *testing.T) {
	for _, length := range []uint64{11, 12, 256 + 10, 1 << 24, 1<<24 + 10, 1<<31 - 1, 1 << 31, 1<<31 + 10, 1<<32 - 11, 1<<32 - 1} {
		what := "Run of " + strconv.FormatUint(length, 10)
		r := octets.NewReader(slices.Concat(num(length, 4).bytes, some(10)))
		if b := r.Run(); len(b) != 0 {
			t.Errorf("%s: %x", what, b)
		}
		wantOver(t, what, r, api.ErrForm)
	}
}

// P4.1, O2: bytes that are left are told, but are read all the same then.
func TestBytesAreLeft(t *testing.T) {
	for _, x := range few() {
		r := octets.NewReader(slices.Concat(x.bytes, []byte{0, 1}))
		for range 2 {
			wantDone(t, x.name+", not read", r, api.ErrForm)
			wantLeft(t, x.name+", not read", r, len(x.bytes)+2)
		}
		if !x.same(r) {
			t.Errorf("%s is not read behind Done", x.name)
		}
		wantDone(t, x.name+", two bytes behind it", r, api.ErrForm)
		wantLeft(t, x.name+", two bytes behind it", r, 2)
		if r.Bool() {
			t.Errorf("%s: behind it a 0 is true", x.name)
		}
		wantDone(t, x.name+", a byte behind it", r, api.ErrForm)
		wantLeft(t, x.name+", a byte behind it", r, 1)
		if !r.Bool() {
			t.Errorf("%s: behind it a 1 is false", x.name)
		}
		wantDone(t, x.name+", all read", r, api.OK)
		wantLeft(t, x.name+", all read", r, 0)
	}
}

// P4.1, O2: of no bytes nothing is left, and all that is read from them ends within.
func TestNothingToRead(t *testing.T) {
	for _, b := range [][]byte{nil, {}} {
		for _, x := range append(few(), run(nil)) {
			r := octets.NewReader(b)
			wantLeft(t, "no bytes", r, 0)
			wantDone(t, "no bytes", r, api.OK)
			if !x.none(r) {
				t.Errorf("%s is read from no bytes", x.name)
			}
			wantOver(t, x.name+" of no bytes", r, api.ErrForm)
		}
	}
}

// P4.1, O2: the first error of a reader stays, however much there was to read; a size that is none is told ahead of bytes that end.
func TestFirstErrorStays(t *testing.T) {
	r := octets.NewReader([]byte{2, 1, 1, 1})
	r.Bool()
	wantOver(t, "no Bool", r, api.ErrForm)
	r = octets.NewReader([]byte{2, 1, 1, 1})
	r.Num(0)
	r.Bool()
	wantOver(t, "no size, and no Bool", r, api.ErrArg)
	r = octets.NewReader([]byte{1, 1})
	r.Num(3)
	r.Num(9)
	wantOver(t, "an end, and no size", r, api.ErrForm)
	r = octets.NewReader([]byte{1, 1})
	r.Num(9)
	wantOver(t, "no size, and an end", r, api.ErrArg)
}

// P4.1, O1, O2, rule 8: a nil writer, and a nil reader.
func TestNil(t *testing.T) {
	var w *octets.Writer
	wantRefused(t, "a nil writer", w)
	for _, x := range few() {
		x.write(w)
		wantRefused(t, "a nil writer, behind "+x.name, w)
	}
	w.Bool(false)
	w.Run(nil)
	w.Num(256, 1)
	w.Num(0, 0)
	wantRefused(t, "a nil writer, behind errors", w)
	wantOver(t, "a nil reader", nil, api.ErrArg)
}

// backAgain reads things from bytes, and wants them all, what is left at each, and nothing at last.
func backAgain(t *testing.T, what string, l []thing, b []byte) {
	t.Helper()
	r, left := octets.NewReader(b), len(b)
	for i, x := range l {
		wantLeft(t, what, r, left)
		if !x.same(r) {
			t.Errorf("%s: %s, at %d, is not read", what, x.name, i)
		}
		left -= len(x.bytes)
	}
	wantLeft(t, what, r, 0)
	wantDone(t, what, r, api.OK)
}

// P4.2: each thing, written alone, is read again.
func TestThereAndBackAlone(t *testing.T) {
	for _, x := range things() {
		w, _ := written(x)
		b, e := w.Done()
		if e != api.OK {
			t.Errorf("%s: error %d", x.name, e)
		}
		backAgain(t, x.name, []thing{x}, b)
	}
}

// P4.2: what was written is read in its order, whatever it is, and as much as it is.
func TestThereAndBack(t *testing.T) {
	lists := [][]thing{nil, few(), things(), mixed(5000), slices.Repeat(few(), 100)}
	for _, x := range few() {
		for _, y := range few() {
			lists = append(lists, []thing{x, y}, []thing{x, run(nil), y, boolean(false)})
		}
	}
	for n := range 100 {
		lists = append(lists, mixed(2 * n)[n:])
	}
	for i, l := range lists {
		what := "list " + strconv.Itoa(i)
		w, want := written(l...)
		wantBytes(t, what, w, want)
		b, _ := w.Done()
		backAgain(t, what, l, b)
	}
}

// P4.2: bytes of bytes: a Run holds what another writer wrote, and so on.
func TestRunsInRuns(t *testing.T) {
	inner, _ := written(few()...)
	for range 50 {
		b, _ := inner.Done()
		inner, _ = written(boolean(true), run(b), num(7, 3))
	}
	b, e := inner.Done()
	if e != api.OK {
		t.Fatalf("error %d", e)
	}
	for range 50 {
		r := octets.NewReader(b)
		if !r.Bool() {
			t.Error("false")
		}
		b = r.Run()
		if n := r.Num(3); n != 7 {
			t.Errorf("Num: %d", n)
		}
		wantDone(t, "a Run", r, api.OK)
	}
	backAgain(t, "what was written first", few(), b)
}

// P4.2: the same bytes, cut short, end within something; with more behind, some are left.
func TestCutShort(t *testing.T) {
	l := mixed(60)
	w, _ := written(l...)
	b, _ := w.Done()
	for n := range b {
		r := octets.NewReader(b[:n])
		for _, x := range l {
			x.same(r)
		}
		wantOver(t, strconv.Itoa(n)+" bytes of all", r, api.ErrForm)
	}
	r := octets.NewReader(append(b, 0))
	for _, x := range l {
		x.same(r)
	}
	wantDone(t, "a byte behind all", r, api.ErrForm)
	wantLeft(t, "a byte behind all", r, 1)
}

// Rule 4: bytes that are written, or read from, stay as they were, and so does what lies behind them.
func TestHandedInStays(t *testing.T) {
	for _, x := range append(few(), run(some(300))) {
		b := roomy(x.bytes)
		whole := bytes.Clone(b[:cap(b)])
		w := octets.NewWriter()
		w.Run(b)
		few()[0].write(w)
		all, _ := w.Done()
		spoil(all)
		r := octets.NewReader(b)
		x.same(r)
		r = octets.NewReader(b)
		spoil(r.Run())
		if !bytes.Equal(b[:cap(b)], whole) {
			t.Errorf("%s was changed: %x, not %x", x.name, b[:cap(b)], whole)
		}
	}
}

// Rule 4: what lies behind the length of bytes is neither written nor read.
func TestBehindTheLength(t *testing.T) {
	w := octets.NewWriter()
	w.Run(roomy([]byte("frost")))
	w.Bool(true)
	wantBytes(t, "a Run with room", w, []byte("\x00\x00\x00\x05frost\x01"))
	for _, x := range few() {
		for n := range x.bytes {
			r := octets.NewReader(roomy(x.bytes[:n]))
			if !x.none(r) {
				t.Errorf("%s, %d bytes of it, with room: something is read", x.name, n)
			}
			wantOver(t, x.name, r, api.ErrForm)
		}
		r := octets.NewReader(roomy(x.bytes))
		wantLeft(t, x.name, r, len(x.bytes))
		if !x.same(r) {
			t.Errorf("%s, with room, is not read", x.name)
		}
		wantDone(t, x.name, r, api.OK)
	}
}

// Rule 4: what is handed in is not kept: it may be spoilt then.
func TestNotKept(t *testing.T) {
	for _, n := range []int{1, 5, 300} {
		b := roomy(some(n))
		w := octets.NewWriter()
		w.Run(b)
		spoil(b)
		wantBytes(t, "a Run that was spoilt then", w, run(some(n)).bytes)
	}
	for _, x := range few() {
		b := roomy(slices.Concat(x.bytes, x.bytes))
		r := octets.NewReader(b)
		spoil(b)
		if !x.same(r) {
			t.Errorf("%s is not read, as its bytes were spoilt then", x.name)
		}
		spoil(b)
		spoil(b)
		if !x.same(r) {
			t.Errorf("%s is not read a second time, as its bytes were spoilt then", x.name)
		}
		wantDone(t, x.name, r, api.OK)
	}
}

// Rule 4: what a writer answers is new each time: it may be spoilt, and more be put behind it.
func TestDoneIsNew(t *testing.T) {
	w, all := octets.NewWriter(), []byte{}
	first := [][]byte{}
	for _, x := range few() {
		x.write(w)
		all = append(all, x.bytes...)
		b, _ := w.Done()
		spoil(b)
		wantBytes(t, x.name+", spoilt", w, all)
		b, _ = w.Done()
		first = append(first, b)
		_ = append(b, 1, 2, 3, 4, 5)
	}
	wantBytes(t, "all", w, all)
	n := 0
	for i, x := range few() {
		n += len(x.bytes)
		if !bytes.Equal(first[i], all[:n]) {
			t.Errorf("what was answered behind %s became %x", x.name, first[i])
		}
	}
}

// Rule 4: what a reader answers is new each time, and shares nothing with what is read then.
func TestRunIsNew(t *testing.T) {
	l := []thing{run([]byte("hoar")), run([]byte("frost")), run(nil), run([]byte("rime")), boolean(true)}
	_, b := written(l...)
	r := octets.NewReader(b)
	first := r.Run()
	_ = append(first, 9, 9, 9, 9, 9, 9, 9, 9, 9)
	second := r.Run()
	spoil(first)
	_ = append(r.Run(), 9, 9, 9, 9, 9, 9, 9, 9, 9)
	third := r.Run()
	spoil(b)
	if !r.Bool() || r.Done() != api.OK {
		t.Errorf("the last is not read: error %d", r.Done())
	}
	if string(second) != "frost" || string(third) != "rime" {
		t.Errorf("%q and %q were read", second, third)
	}
	spoil(second)
	if string(third) != "rime" {
		t.Errorf("%q shares memory", third)
	}
}

// P2: writers, and readers, of the same bytes have nothing to do with one another; nor have a writer and who reads what it answered.
func TestSideBySide(t *testing.T) {
	l := mixed(100)
	_, all := written(l...)
	w, other := octets.NewWriter(), octets.NewWriter()
	r, behind := octets.NewReader(all), octets.NewReader(all)
	other.Num(1, 0)
	for i, x := range l {
		x.write(w)
		l[len(l)-1-i].write(other)
		if !x.same(r) || i > 0 && !l[i-1].same(behind) {
			t.Errorf("%s, at %d, is not read", x.name, i)
		}
		wantLeft(t, x.name, behind, r.Left()+len(x.bytes))
	}
	wantBytes(t, "one of two", w, all)
	wantRefused(t, "the other one", other)
	wantDone(t, "one of two", r, api.OK)
	b, _ := w.Done()
	r = octets.NewReader(b)
	w.Num(256, 1)
	wantLeft(t, "what a writer answered", r, len(all))
}

// P1, P2: each call ends, at whatever bytes, and whatever size, and answers the same again.
func TestAgain(t *testing.T) {
	ask := func() (l []string) {
		for n := range 120 {
			r := octets.NewReader(some(2 * n)[n:])
			for _, size := range append(sizes(), noSizes()[n%len(noSizes())]) {
				l = append(l, strconv.FormatUint(r.Num(size), 16), strconv.FormatBool(r.Bool()), strconv.Itoa(r.Int()), string(r.Run()), strconv.Itoa(r.Left()), strconv.Itoa(int(r.Done())))
			}
			w, _ := written(mixed(n)...)
			w.Num(uint64(n), 1+n%9)
			b, e := w.Done()
			l = append(l, string(b), strconv.Itoa(int(e)))
		}
		return l
	}
	if !slices.Equal(ask(), ask()) {
		t.Error("asked again, another answer")
	}
}
