package frame_test

import (
	"bytes"
	"encoding/binary"
	"encoding/hex"
	"fmt"
	"math"
	"slices"
	"testing"

	"hoarfrost/api"
	"hoarfrost/frame"
)

// How many bytes frames have.
const (
	airSize  = 17
	doorSize = 10
)

func air(zone, seq, minute int, bits uint64) api.Frame {
	return api.Frame{Zone: zone, Seq: seq, Minute: minute, Bits: bits}
}

func door(zone, seq, minute int, open bool) api.Frame {
	return api.Frame{Zone: zone, Seq: seq, Minute: minute, Door: true, Open: open}
}

// spread are n numbers of all sizes, the same in each run.
func spread(n int) []uint64 {
	l, x := make([]uint64, n), uint64(5)
	for i := range l {
		x = x*6364136223846793005 + 1442695040888963407
		l[i] = (x ^ x>>31) * 0x9e3779b97f4a7c15 >> (i % 64)
	}
	return l
}

// The numbers that a frame's fields may be, and those that they may not be; some would be, if they wrapped round.
func zones() []int { return []int{1, 2, 8, 15, 16} }

func noZones() []int {
	return []int{0, 17, -1, -2, -15, -16, -17, 18, 255, 256, 257, 272, 1 << 16, 1<<16 + 1, 1<<32 + 1, -1<<32 + 1, -255, math.MaxInt, math.MinInt, math.MinInt + 1}
}

func seqs() []int { return []int{0, 1, 2, 255, 256, 257, 258, 32767, 32768, 65534, 65535} }

func noSeqs() []int {
	return []int{-1, 65536, -2, 65537, -65535, -65536, 1 << 17, 1 << 24, 1 << 32, 1<<32 + 1, -1<<32 + 1, math.MaxInt, math.MinInt, math.MinInt + 1}
}

func minutes() []int {
	return []int{0, 1, 255, 256, 65535, 65536, 66051, 1<<19 - 1, 1 << 19, 1<<20 - 2, 1<<20 - 1}
}

func noMinutes() []int {
	return []int{-1, 1 << 20, -2, 1<<20 + 1, -1 << 20, 1<<20 + 1<<19, 1<<24 - 1, 1 << 24, 1<<24 + 5, 1 << 32, 1<<32 + 1, -1<<32 + 1, math.MaxInt, math.MinInt, math.MinInt + 1}
}

// numbers are bits that are no NaN's: of both noughts, both infinities, those too small, too great and at the tenths' ends, each single bit's, and others.
func numbers() []uint64 {
	l := []uint64{}
	for _, x := range []float64{0, 5.2, 4.5, 0.01, 0.1, 1, 10, math.Pi, math.SmallestNonzeroFloat64, 0x1p-1022, 0x1p-1022 - math.SmallestNonzeroFloat64, math.MaxFloat64, 1e300, 109951162777.5, 109951162777.6, 109951162777.7, math.Inf(1)} {
		l = append(l, math.Float64bits(x), math.Float64bits(-x))
	}
	l = append(l, 1<<63)
	for bit := range 63 {
		l = append(l, 1<<bit, 1<<63|1<<bit)
	}
	for _, n := range spread(200) {
		if !isNaN(n) {
			l = append(l, n)
		}
	}
	return l
}

// nans are bits of NaNs: of both signs, quiet and not, with each single bit beside, and with all.
func nans() []uint64 {
	l := []uint64{0x7ff8000000000000, 0xfff8000000000000, 0x7ff7ffffffffffff, 0xfff7ffffffffffff, 0x7fffffffffffffff, math.MaxUint64, math.Float64bits(math.NaN())}
	for bit := range 52 {
		l = append(l, 0x7ff<<52|1<<bit, 0xfff<<52|1<<bit)
	}
	return l
}

// isNaN tells whether bits are a NaN's: without their sign those of something beyond the infinity.
func isNaN(bits uint64) bool { return bits<<1 > 0x7ff<<53 }

// mayBe tells whether a frame may be, by the words.
func mayBe(f api.Frame) bool {
	switch {
	case f.Zone < 1, f.Zone > 16, f.Seq < 0, f.Seq > 65535, f.Minute < 0, f.Minute > 1<<20-1:
		return false
	case f.Door:
		return f.Bits == 0
	}
	return !f.Open && !isNaN(f.Bits)
}

// right are frames that may be: all edges with one another, of the air and of doors; all numbers; and others.
func right() (l []api.Frame) {
	for _, zone := range zones() {
		for _, seq := range seqs() {
			for _, minute := range minutes() {
				l = append(l, door(zone, seq, minute, false), door(zone, seq, minute, true))
				for _, x := range []float64{0, 5.2, -18, math.Inf(1)} {
					l = append(l, air(zone, seq, minute, math.Float64bits(x)))
				}
			}
		}
	}
	for i, bits := range numbers() {
		l = append(l, air(1+i%16, 251*i%65536, 65521*i%(1<<20), bits))
	}
	for _, n := range spread(500) {
		zone, seq, minute := 1+int(n%16), int(n>>4%65536), int(n>>20%(1<<20))
		degrees := float64(n%1201)/8 - 75
		l = append(l, air(zone, seq, minute, math.Float64bits(degrees)), door(zone, seq, minute, n>>5%2 == 1))
	}
	return l
}

// few are some frames that may be, of both kinds.
func few() []api.Frame {
	return []api.Frame{
		air(1, 0, 0, 0), air(16, 65535, 1<<20-1, 1<<63), air(3, 258, 66051, math.Float64bits(5.2)), air(7, 1, 10, math.Float64bits(math.Inf(-1))),
		door(1, 0, 0, false), door(1, 0, 0, true), door(16, 65535, 1<<20-1, true), door(5, 258, 66051, false),
	}
}

// wrong are frames that may not be, for one cause each.
func wrong() (l []api.Frame) {
	for _, f := range few() {
		for _, zone := range noZones() {
			l = append(l, with(f, func(f *api.Frame) { f.Zone = zone }))
		}
		for _, seq := range noSeqs() {
			l = append(l, with(f, func(f *api.Frame) { f.Seq = seq }))
		}
		for _, minute := range noMinutes() {
			l = append(l, with(f, func(f *api.Frame) { f.Minute = minute }))
		}
		if !f.Door {
			l = append(l, with(f, func(f *api.Frame) { f.Open = true }))
		}
		for _, bits := range slices.Concat(nans(), numbers()) {
			if isNaN(bits) || f.Door && bits != 0 {
				l = append(l, with(f, func(f *api.Frame) { f.Bits = bits }))
			}
		}
	}
	return l
}

// with is a frame that differs.
func with(f api.Frame, change func(f *api.Frame)) api.Frame {
	change(&f)
	return f
}

// sum is that of bytes, reckoned a byte at once: 4129 is 1 and 32 and 4096, so that its bits are those of three shifts.
func sum(b []byte) uint16 {
	s := uint16(65535)
	for _, x := range b {
		high := uint16(x) ^ s>>8
		high ^= high >> 4
		s = s<<8 ^ high<<12 ^ high<<5 ^ high
	}
	return s
}

// seal is new bytes, and their sum behind them.
func seal(b []byte) []byte {
	return binary.BigEndian.AppendUint16(bytes.Clone(b), sum(b))
}

// fields are what a frame's bytes have ahead of their sum, be it one that may be or not: its kind, zone, seq, minute, and the rest.
func fields(kind, zone byte, seq uint16, minute uint32, rest ...byte) []byte {
	b := binary.BigEndian.AppendUint16([]byte{kind, zone}, seq)
	return append(b, slices.Concat([]byte{byte(minute >> 16), byte(minute >> 8), byte(minute)}, rest)...)
}

// eight are the bytes of bits.
func eight(bits uint64) []byte { return binary.BigEndian.AppendUint64(nil, bits) }

// wordsBytes are those of a frame that may be, by the words.
func wordsBytes(f api.Frame) []byte {
	zone, seq, minute := byte(f.Zone), uint16(f.Seq), uint32(f.Minute)
	switch {
	case !f.Door:
		return seal(fields(0, zone, seq, minute, eight(f.Bits)...))
	case f.Open:
		return seal(fields(1, zone, seq, minute, 1))
	}
	return seal(fields(1, zone, seq, minute, 0))
}

// wordsFrame is that of bytes, by the words.
func wordsFrame(b []byte) (api.Frame, api.Errno) {
	none, n := api.Frame{}, len(b)-2
	if len(b) != airSize && len(b) != doorSize {
		return none, api.ErrForm
	}
	if sum(b[:n]) != binary.BigEndian.Uint16(b[n:]) {
		return none, api.ErrSum
	}
	f := api.Frame{Zone: int(b[1]), Seq: int(b[2])*256 + int(b[3]), Minute: int(b[4])*65536 + int(b[5])*256 + int(b[6])}
	switch {
	case len(b) == airSize && b[0] == 0:
		f.Bits = binary.BigEndian.Uint64(b[7:])
	case len(b) == doorSize && b[0] == 1 && b[7] < 2:
		f.Door, f.Open = true, b[7] == 1
	default:
		return none, api.ErrForm
	}
	if !mayBe(f) {
		return none, api.ErrForm
	}
	return f, api.OK
}

// roomy are the same bytes, with others behind their length in their memory.
func roomy(b, behind []byte) []byte {
	return slices.Concat(b, behind)[:len(b)]
}

// spoil turns all bits of bytes, and of what lies behind them in their memory.
func spoil(b []byte) {
	b = b[:cap(b)]
	for i := range b {
		b[i] ^= 255
	}
}

func wantBytes(t *testing.T, f api.Frame, want []byte) {
	t.Helper()
	if got, e := frame.Encode(f); e != api.OK || !bytes.Equal(got, want) {
		t.Errorf("Encode(%+v): %x, error %d, not %x", f, got, e, want)
	}
}

func wantFrame(t *testing.T, b []byte, want api.Frame) {
	t.Helper()
	if got, e := frame.Decode(b); e != api.OK || got != want {
		t.Errorf("Decode(%x): %+v, error %d, not %+v", b, got, e, want)
	}
}

// wantNone wants an error of bytes, and no frame beside it.
func wantNone(t *testing.T, b []byte, want api.Errno) {
	t.Helper()
	if got, e := frame.Decode(b); e != want || got != (api.Frame{}) {
		t.Errorf("Decode(%d bytes, %x first): %+v, error %d, not %d", len(b), b[:min(len(b), 40)], got, e, want)
	}
}

// wantWrong wants a frame to be one that may not be.
func wantWrong(t *testing.T, f api.Frame) {
	t.Helper()
	if frame.Right(f) {
		t.Errorf("Right(%+v): true", f)
	}
	if b, e := frame.Encode(f); e != api.ErrArg || len(b) != 0 {
		t.Errorf("Encode(%+v): %x, error %d", f, b, e)
	}
	if n, e := frame.Tenths(f); e != api.ErrArg || n != 0 {
		t.Errorf("Tenths(%+v): %d, error %d", f, n, e)
	}
}

// P5.1, F1: frames, and their bytes, one by one.
func TestKnownBytes(t *testing.T) {
	for _, c := range []struct {
		f    api.Frame
		want string
	}{
		{air(1, 0, 0, 0), "00010000000000000000000000000035a2"},
		{air(16, 65535, 1048575, 1<<63), "0010ffff0fffff800000000000000037b3"},
		{air(3, 258, 66051, math.Float64bits(5.2)), "000301020102034014cccccccccccd529b"},
		{air(2, 256, 65536, math.Float64bits(-18.05)), "00020100010000c0320ccccccccccd50bc"},
		{air(9, 4660, 703710, 1), "000912340abcde00000000000000016ab0"},
		{air(7, 1, 10, math.Float64bits(math.Inf(1))), "0007000100000a7ff0000000000000947e"},
		{air(7, 1, 10, math.Float64bits(math.Inf(-1))), "0007000100000afff000000000000069ff"},
		{door(1, 0, 0, false), "0101000000000000ce8c"},
		{door(1, 0, 0, true), "0101000000000001dead"},
		{door(16, 65535, 1048575, true), "0110ffff0fffff0147d5"},
		{door(16, 65535, 1048575, false), "0110ffff0fffff0057f4"},
		{door(3, 258, 66051, true), "0103010201020301f2ea"},
		{door(5, 32768, 524288, false), "01058000080000005ea9"},
	} {
		want, err := hex.DecodeString(c.want)
		if err != nil {
			t.Fatal(err)
		}
		wantBytes(t, c.f, want)
		wantFrame(t, want, c.f)
		if f, e := wordsFrame(want); f != c.f || e != api.OK || !bytes.Equal(wordsBytes(c.f), want) {
			t.Errorf("the test's own reckoning of %s: %+v, %x", c.want, f, wordsBytes(c.f))
		}
	}
}

// P5.1, F1: frames that may be, and their bytes, 17 or 10.
func TestRightFrames(t *testing.T) {
	for _, f := range right() {
		if !frame.Right(f) {
			t.Errorf("Right(%+v): false", f)
		}
		want := wordsBytes(f)
		if size := len(want); size != airSize && !f.Door || size != doorSize && f.Door {
			t.Errorf("the test's own bytes of %+v: %d", f, size)
		}
		wantBytes(t, f, want)
	}
}

// P5.1, F1: frames that may not be: a Zone, a Seq, a Minute beyond its ends; the air that is open, or has a NaN's Bits; a door that has any.
func TestWrongFrames(t *testing.T) {
	for _, f := range wrong() {
		wantWrong(t, f)
	}
	wantWrong(t, api.Frame{})
	wantWrong(t, api.Frame{Door: true})
	wantWrong(t, api.Frame{Zone: 17, Seq: -1, Minute: 1 << 20, Open: true, Bits: math.MaxUint64})
}

// P5.1, F1: whether a frame may be is asked of all fields together.
func TestRightIsTheWords(t *testing.T) {
	for _, zone := range []int{0, 1, 16, 17} {
		for _, seq := range []int{-1, 0, 65535, 65536} {
			for _, minute := range []int{-1, 0, 1<<20 - 1, 1 << 20} {
				for _, bits := range []uint64{0, 1, 1 << 63, 0x7ff << 52, 0x7ff<<52 + 1, 0xfff << 52, 0xfff<<52 + 1, math.MaxUint64} {
					for kind := range 4 {
						f := api.Frame{Zone: zone, Seq: seq, Minute: minute, Door: kind&1 == 1, Open: kind&2 == 2, Bits: bits}
						if got := frame.Right(f); got != mayBe(f) {
							t.Errorf("Right(%+v): %t", f, got)
						}
						if !mayBe(f) {
							wantWrong(t, f)
						}
					}
				}
			}
		}
	}
}

// P5.1, F1: bytes of each number but 17 and 10, none, and one more and one less of each among them, whether they are good or not.
func TestNeither17Nor10(t *testing.T) {
	wantNone(t, nil, api.ErrForm)
	wantNone(t, []byte{}, api.ErrForm)
	whole := slices.Concat(wordsBytes(few()[2]), wordsBytes(few()[6]), wordsBytes(few()[0]))
	lengths := []int{255, 256, 256 + doorSize, 256 + airSize, 65536 + doorSize, 65536 + airSize}
	for n := range len(whole) {
		lengths = append(lengths, n)
	}
	for _, n := range lengths {
		if n == airSize || n == doorSize {
			continue
		}
		long := bytes.Repeat(whole, 1+n/len(whole))
		for _, b := range [][]byte{make([]byte, n), bytes.Repeat([]byte{255}, n), long[:n], long[len(long)-n:], append([]byte{1}, long...)[:n]} {
			wantNone(t, b, api.ErrForm)
			if n >= 2 {
				wantNone(t, seal(b[:n-2]), api.ErrForm)
			}
		}
	}
}

// P5.1, F1: a frame's bytes that lost one, or got one, be they sealed anew or not.
func TestOneMoreOneLess(t *testing.T) {
	for _, f := range few() {
		b := wordsBytes(f)
		n := len(b)
		sealed := b[:n-2]
		for _, other := range [][]byte{b[:n-1], b[1:], append(bytes.Clone(b), 0), append([]byte{0}, b...), seal(sealed[:n-3]), seal(sealed[1:]), seal(append(bytes.Clone(sealed), 0)), seal(append([]byte{b[0]}, sealed...)), seal(b)} {
			wantNone(t, other, api.ErrForm)
		}
	}
}

// P5.1, F1: of all last two bytes just the sum is not another one; that is asked ahead of what the fields are.
func TestAnotherSum(t *testing.T) {
	bits := eight(math.Float64bits(5.2))
	for _, b := range [][]byte{
		fields(0, 3, 258, 66051, bits...), fields(1, 3, 258, 66051, 1), fields(1, 3, 258, 66051, 0),
		fields(0, 0, 258, 66051, bits...), fields(0, 3, 258, 1<<20, bits...), fields(0, 3, 258, 0, eight(math.MaxUint64)...), fields(2, 3, 258, 66051, bits...), fields(1, 3, 258, 66051, bits...),
		fields(1, 17, 258, 66051, 1), fields(1, 3, 258, 66051, 2), fields(0, 3, 258, 66051, 1), make([]byte, 8), make([]byte, 15), bytes.Repeat([]byte{255}, 8), bytes.Repeat([]byte{255}, 15),
	} {
		own := sum(b)
		for last := range 65536 {
			if uint16(last) != own {
				wantNone(t, binary.BigEndian.AppendUint16(bytes.Clone(b), uint16(last)), api.ErrSum)
			}
		}
		if f, e := wordsFrame(seal(b)); e == api.OK {
			wantFrame(t, seal(b), f)
		} else {
			wantNone(t, seal(b), api.ErrForm)
		}
	}
}

// P5.1, F1: good bytes with a zone that is none.
func TestGoodButNoZone(t *testing.T) {
	for zone := range 256 {
		for _, b := range [][]byte{fields(0, byte(zone), 7, 9, eight(0)...), fields(1, byte(zone), 7, 9, 0), fields(1, byte(zone), 7, 9, 1)} {
			if 1 <= zone && zone <= 16 {
				want, _ := wordsFrame(seal(b))
				wantFrame(t, seal(b), with(want, func(f *api.Frame) { f.Zone = zone }))
			} else {
				wantNone(t, seal(b), api.ErrForm)
			}
		}
	}
}

// P5.1, F1: good bytes with a minute that is none.
func TestGoodButNoMinute(t *testing.T) {
	for _, minute := range []uint32{1 << 20, 1<<20 + 1, 1<<20 + 66051, 1<<21 - 1, 1 << 21, 1 << 22, 1 << 23, 1<<24 - 1<<20, 1<<24 - 2, 1<<24 - 1} {
		wantNone(t, seal(fields(0, 3, 258, minute, eight(0)...)), api.ErrForm)
		wantNone(t, seal(fields(1, 3, 258, minute, 0)), api.ErrForm)
		wantNone(t, seal(fields(1, 3, 258, minute, 1)), api.ErrForm)
	}
	wantFrame(t, seal(fields(0, 3, 258, 1<<20-1, eight(0)...)), air(3, 258, 1<<20-1, 0))
	wantFrame(t, seal(fields(1, 3, 258, 1<<20-1, 1)), door(3, 258, 1<<20-1, true))
}

// P5.1, F1: good bytes with a NaN's bits; those of numbers stay just as they are.
func TestGoodButNoNumber(t *testing.T) {
	for _, bits := range nans() {
		wantNone(t, seal(fields(0, 3, 258, 66051, eight(bits)...)), api.ErrForm)
	}
	for _, bits := range numbers() {
		wantFrame(t, seal(fields(0, 3, 258, 66051, eight(bits)...)), air(3, 258, 66051, bits))
	}
}

// P5.1, F1: good bytes whose first byte is neither 0 nor 1, or is the other kind's.
func TestGoodButNoKind(t *testing.T) {
	for kind := range 256 {
		for _, rest := range [][]byte{eight(0), eight(1 << 56), eight(math.Float64bits(5.2))} {
			b := seal(fields(byte(kind), 3, 258, 66051, rest...))
			if kind == 0 {
				wantFrame(t, b, air(3, 258, 66051, binary.BigEndian.Uint64(rest)))
			} else {
				wantNone(t, b, api.ErrForm)
			}
		}
		for open := range byte(2) {
			b := seal(fields(byte(kind), 3, 258, 66051, open))
			if kind == 1 {
				wantFrame(t, b, door(3, 258, 66051, open == 1))
			} else {
				wantNone(t, b, api.ErrForm)
			}
		}
	}
}

// P5.1, F1: good bytes of a door whose Bool is neither 0 nor 1.
func TestGoodButNoBool(t *testing.T) {
	for open := 2; open < 256; open++ {
		wantNone(t, seal(fields(1, 3, 258, 66051, byte(open))), api.ErrForm)
	}
}

// P5.1, F1: each byte of a frame's made each other one, sealed anew: what they are is what the words tell.
func TestEachByte(t *testing.T) {
	for _, f := range few() {
		b := wordsBytes(f)
		for i := range len(b) - 2 {
			for x := range 256 {
				other := bytes.Clone(b[:len(b)-2])
				other[i] = byte(x)
				other = seal(other)
				if want, e := wordsFrame(other); e == api.OK {
					wantFrame(t, other, want)
				} else {
					wantNone(t, other, e)
				}
			}
		}
	}
}

// P5.1, F1: tenths that are known: of both noughts and infinities, of numbers too small and too great, at the tenths' ends.
func TestTenthsKnown(t *testing.T) {
	for x, want := range map[float64]int{
		5.2: 52, 4.5: 45, 0.01: 1, -0.01: 0, -0.1: -1, -0.15: -1, -18.05: -180, 4: 40, math.SmallestNonzeroFloat64: 1, -math.SmallestNonzeroFloat64: 0,
		1e300: api.Top, -1e300: -api.Top, math.MaxFloat64: api.Top, -math.MaxFloat64: -api.Top, math.Inf(1): api.Top, math.Inf(-1): -api.Top,
		109951162777.6: api.Top, 109951162777.5: api.Top - 1, -109951162777.6: -api.Top, 0: 0,
	} {
		for _, place := range []api.Frame{air(1, 0, 0, 0), air(16, 65535, 1<<20-1, 0)} {
			f := with(place, func(f *api.Frame) { f.Bits = math.Float64bits(x) })
			if got, e := frame.Tenths(f); got != want || e != api.OK {
				t.Errorf("Tenths(%+v), of %g: %d, error %d, not %d", f, x, got, e, want)
			}
		}
	}
	if got, e := frame.Tenths(air(1, 0, 0, 1<<63)); got != 0 || e != api.OK {
		t.Errorf("Tenths of -0: %d, error %d", got, e)
	}
}

// P5.1, F1: the tenths of all frames: of the air those of its Bits, of a door none, open or not.
func TestTenths(t *testing.T) {
	for _, f := range right() {
		want, wantErr := 0, api.ErrArg
		if !f.Door {
			tenfold := math.Ceil(10 * math.Float64frombits(f.Bits))
			want, wantErr = int(max(-api.Top, min(api.Top, tenfold))), api.OK
		}
		if got, e := frame.Tenths(f); got != want || e != wantErr {
			t.Errorf("Tenths(%+v): %d, error %d, not %d, %d", f, got, e, want, wantErr)
		}
	}
}

// wantThereAndBack wants a frame to be that of its bytes, and these to be its.
func wantThereAndBack(t *testing.T, f api.Frame) {
	t.Helper()
	b, e := frame.Encode(f)
	if e != api.OK {
		t.Errorf("Encode(%+v): error %d", f, e)
	}
	wantFrame(t, b, f)
	again, _ := frame.Decode(b)
	wantBytes(t, again, b)
}

// P5.2: a frame that may be is that of its bytes.
func TestThereAndBack(t *testing.T) {
	for _, f := range right() {
		wantThereAndBack(t, f)
	}
}

// P5.2: all zones and seqs, and minutes from one end to the other.
func TestThereAndBackOfAll(t *testing.T) {
	for zone := 1; zone <= 16; zone++ {
		for minute := zone; minute < 1<<20; minute += 257 {
			wantThereAndBack(t, air(zone, minute%65536, minute, uint64(minute)<<40))
		}
	}
	for seq := range 65536 {
		wantThereAndBack(t, air(1+seq%16, seq, 16*seq, math.Float64bits(float64(seq)/100)))
		wantThereAndBack(t, door(1+seq/16%16, seq, 1<<20-1-seq, seq%3 == 1))
	}
}

// P5.2: no two frames have the same bytes.
func TestBytesTellFramesApart(t *testing.T) {
	seen := map[string]api.Frame{}
	for _, f := range right() {
		b, _ := frame.Encode(f)
		if other, ok := seen[string(b)]; ok && other != f {
			t.Errorf("%+v and %+v have one another's bytes, %x", f, other, b)
		}
		seen[string(b)] = f
	}
}

// P5.2: bytes that are a frame's are its, and no others are; what they are is what the words tell.
func TestBackAndThere(t *testing.T) {
	frames := 0
	for i, n := range spread(60000) {
		rest := eight(n * 0x2545f4914f6cdd1d)
		if i%2 == 1 {
			rest = []byte{byte(n >> 7 % 3)}
		}
		b := seal(fields(byte((i+int(n%9)/8)%2), byte(n>>2%18), uint16(n>>11), uint32(n>>23)%(1<<20+1<<17), rest...))
		want, e := wordsFrame(b)
		if e != api.OK {
			wantNone(t, b, e)
			continue
		}
		frames++
		wantFrame(t, b, want)
		got, _ := frame.Decode(b)
		wantBytes(t, got, b)
	}
	if frames < 30000 {
		t.Errorf("just %d of the bytes are a frame's", frames)
	}
}

// turn turns those bits of bytes, from their i-th on, that are set in a burst, its lowest bit first; of each byte either the highest bit is the first one, or the lowest.
func turn(b []byte, i int, burst uint, lowest bool) {
	for ; burst != 0; burst, i = burst>>1, i+1 {
		place := 7 - i%8
		if lowest {
			place = i % 8
		}
		b[i/8] ^= byte(burst&1) << place
	}
}

// wantAllBursts wants all bursts of bytes, at all places, to be told by the sum.
func wantAllBursts(t *testing.T, b []byte, lowest bool) {
	bits := 8 * len(b)
	for i := range bits {
		for burst := uint(1); burst < 1<<min(16, bits-i); burst += 2 {
			turn(b, i, burst, lowest)
			if f, e := frame.Decode(b); e != api.ErrSum || f != (api.Frame{}) {
				t.Fatalf("burst %x at bit %d: Decode(%x): %+v, error %d", burst, i, b, f, e)
			}
			turn(b, i, burst, lowest)
		}
	}
}

// P5.3: all bursts of some frames' bytes, at all places, whichever bit of a byte is called its first one.
func TestAllBursts(t *testing.T) {
	for _, f := range []api.Frame{air(3, 258, 66051, math.Float64bits(5.2)), air(16, 65535, 1<<20-1, 0), door(3, 258, 66051, true), door(1, 0, 0, false)} {
		for _, lowest := range []bool{false, true} {
			t.Run(fmt.Sprintf("%+v, lowest bit first %t", f, lowest), func(t *testing.T) {
				t.Parallel()
				b, e := frame.Encode(f)
				if e != api.OK {
					t.Fatalf("Encode: error %d", e)
				}
				wantAllBursts(t, b, lowest)
				wantFrame(t, b, f)
			})
		}
	}
}

// P5.3: in many frames' bytes each bit, each two bits, and some bursts, at each place, in both orders of a byte's bits.
func TestBurstsOfMany(t *testing.T) {
	bursts := []uint{1, 0xffff, 0x8001, 0x8811, 0x1021, 0x8408, 0x8005, 0xff, 0xff00}
	for two := uint(3); two < 1<<16; two = two<<1 - 1 {
		bursts = append(bursts, two)
	}
	all := right()
	for n := 0; n < len(all); n += 61 {
		b, e := frame.Encode(all[n])
		if e != api.OK {
			t.Fatalf("Encode(%+v): error %d", all[n], e)
		}
		for i := range 8 * len(b) {
			for _, burst := range bursts {
				if burst >= 1<<min(16, 8*len(b)-i) {
					continue
				}
				for _, lowest := range []bool{false, true} {
					turn(b, i, burst, lowest)
					wantNone(t, b, api.ErrSum)
					turn(b, i, burst, lowest)
				}
			}
		}
		wantFrame(t, b, all[n])
	}
}

// some are bytes of many kinds: frames', and none's.
func some() [][]byte {
	l := [][]byte{nil, {}, []byte("hoarfrost!"), []byte("seventeen letters"), seal(make([]byte, 8)), seal(make([]byte, 15)), make([]byte, 10), make([]byte, 17)}
	for _, f := range few() {
		b := wordsBytes(f)
		turned := bytes.Clone(b)
		turned[4] ^= 32
		l = append(l, b, b[:len(b)-1], turned, seal(turned[:len(turned)-2]))
	}
	return l
}

// Rule 4: bytes that are handed in stay as they were, and so does what lies behind them.
func TestHandedInStays(t *testing.T) {
	for _, b := range some() {
		b = roomy(b, []byte{0xaa, 0xbb, 0xcc, 0xdd, 0xee, 1, 1})
		whole := bytes.Clone(b[:cap(b)])
		frame.Decode(b)
		if !bytes.Equal(b[:cap(b)], whole) {
			t.Errorf("%x was changed: %x", whole, b[:cap(b)])
		}
	}
}

// Rule 4: what lies behind the length of bytes makes no difference, were they a frame's with it or without it.
func TestBehindTheLength(t *testing.T) {
	for _, b := range some() {
		want, e := frame.Decode(b)
		for _, behind := range [][]byte{{0xaa, 0xbb, 0xcc}, make([]byte, 20), b} {
			if got, again := frame.Decode(roomy(b, behind)); got != want || again != e {
				t.Errorf("Decode(%x), with %x behind: %+v, error %d, not %+v, %d", b, behind, got, again, want, e)
			}
		}
	}
	for _, f := range few() {
		b := wordsBytes(f)
		for n := range b {
			want, e := wordsFrame(b[:n])
			if got, gotErr := frame.Decode(b[:n]); got != want || gotErr != e {
				t.Errorf("Decode(%x), with %x behind: %+v, error %d", b[:n], b[n:], got, gotErr)
			}
		}
	}
}

// Rule 4: bytes that are handed in are not kept, nor are those that are answered: both may be spoilt then.
func TestAnswersAreNew(t *testing.T) {
	for _, f := range few() {
		b, _ := frame.Encode(f)
		other, _ := frame.Encode(f)
		got, _ := frame.Decode(b)
		spoil(b)
		_ = append(other, 9, 9, 9)
		if got != f || !bytes.Equal(other, wordsBytes(f)) {
			t.Errorf("%+v: spoilt bytes made it %+v, others %x", f, got, other)
		}
		spoil(other)
		wantBytes(t, f, wordsBytes(f))
		wantFrame(t, wordsBytes(f), f)
	}
}

// P1, P2: each call ends, at whatever it is given, and answers the same again, whatever was asked between.
func TestAgain(t *testing.T) {
	ask := func() (l []string) {
		for _, b := range some() {
			f, e := frame.Decode(b)
			l = append(l, fmt.Sprintf("%+v %d", f, e))
		}
		for _, f := range slices.Concat(few(), wrong()) {
			b, e := frame.Encode(f)
			n, none := frame.Tenths(f)
			l = append(l, fmt.Sprintf("%t %x %d %d %d", frame.Right(f), b, e, n, none))
		}
		return l
	}
	if !slices.Equal(ask(), ask()) {
		t.Error("asked again, another answer")
	}
}
