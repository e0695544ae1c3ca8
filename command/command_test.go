package command_test

import (
	"bytes"
	"encoding/binary"
	"encoding/hex"
	"fmt"
	"math"
	"slices"
	"strings"
	"testing"

	"hoarfrost/api"
	"hoarfrost/command"
)

// What the words name: how many kinds there are, how many numbers the struct has, and how many bytes a frame may have.
const (
	kinds  = 16
	places = 5
	frame  = 64
)

// list are all of a command's numbers.
type list [places]int

// made is a command of a kind, numbers, and Bytes.
func made(k api.Kind, n list, b []byte) api.Command {
	return api.Command{Kind: k, A: n[0], B: n[1], C: n[2], D: n[3], E: n[4], Bytes: b}
}

func numbers(c api.Command) list { return list{c.A, c.B, c.C, c.D, c.E} }

// with is a command that has another number at a place.
func with(c api.Command, place, n int) api.Command {
	l := numbers(c)
	l[place] = n
	return made(c.Kind, l, c.Bytes)
}

// withBytes is a command that has other Bytes.
func withBytes(c api.Command, b []byte) api.Command {
	c.Bytes = b
	return c
}

// withKind is a command of another kind.
func withKind(c api.Command, k api.Kind) api.Command {
	c.Kind = k
	return c
}

// cut is a command whose numbers are as many as its kind has, with 0 behind them, and that has Bytes, if its kind may have them.
func cut(c api.Command) api.Command {
	for place := max(0, wordsNumbers(c.Kind)); place < places; place++ {
		c = with(c, place, 0)
	}
	if c.Kind != api.Sense {
		c.Bytes = nil
	}
	return c
}

// full are so many bytes, no two in a row alike.
func full(n int) []byte {
	b := make([]byte, n)
	for i := range b {
		b[i] = byte(37*i + 11)
	}
	return b
}

// dice tell numbers that look like any, the same in each run.
type dice uint64

func (d *dice) next() uint64 {
	*d = *d*6364136223846793005 + 1442695040888963407
	return uint64(*d^*d>>31) * 0x9e3779b97f4a7c15
}

func (d *dice) below(n int) int { return int((d.next() >> 1) % uint64(n)) }

func (d *dice) one(l ...int) int { return l[d.below(len(l))] }

// sized is a number of any size, and sign.
func (d *dice) sized() int { return int(d.next()) >> d.below(64) }

// bytes are so many.
func (d *dice) bytes(n int) []byte {
	b := make([]byte, n)
	for i := range b {
		b[i] = byte(d.next() >> 40)
	}
	return b
}

// any is a command of any kind, numbers, and Bytes.
func (d *dice) any() api.Command {
	var n list
	for place := range n {
		n[place] = d.one(d.sized(), d.below(300), d.one(edges()...), 0)
	}
	k := api.Kind(d.one(d.below(kinds), d.below(kinds), d.below(kinds), 0, d.one(none()...)))
	return made(k, n, d.bytes(d.one(0, 1, d.below(frame), frame, frame+1, d.below(100))))
}

// command is one that may be.
func (d *dice) command() api.Command {
	c := d.any()
	c.Kind = api.Kind(d.below(kinds))
	c.Bytes = c.Bytes[:min(len(c.Bytes), frame)]
	return cut(c)
}

// edges are numbers at the ends, all that have one bit, and some that have many.
func edges() []int {
	l := []int{math.MinInt, math.MinInt + 1, -1 << 62, -1<<32 - 1, -1 << 32, -1<<32 + 1, -65536, -257, -256, -255, -3, -2, -1, 0, 3, 5, 255, 257, 65535, 1<<32 - 1, 1<<32 + 1, 1<<62 - 1, 1<<62 + 1, math.MaxInt - 1, math.MaxInt, 0x0102030405060708, 0x00ff00ff00ff00ff, -0x0102030405060708}
	for bit := range 63 {
		l = append(l, 1<<bit)
	}
	return l
}

// none are numbers that are no kind's; many of them would be one's, if a bit, or more, went away.
func none() []int {
	l := []int{-1, -2, -15, -16, -17, -255, -256, 16, 17, 18, 31, 32, 127, 128, 255, 256, 257, 271, 272, 65535, 65536, 65537, 1 << 31, 1 << 32, 1<<32 + 1, 1<<32 + 15, 1<<62 + 4, math.MinInt, math.MinInt + 1, math.MinInt + 12, math.MaxInt - 1, math.MaxInt}
	for bit := 4; bit < 63; bit++ {
		l = append(l, 1<<bit, 1<<bit+3, -1<<bit, -1<<bit+9)
	}
	return l
}

// few are, of each kind, some commands that may be.
func few() (l []api.Command) {
	for k := range api.Kind(kinds) {
		for _, n := range []list{{}, {1, 2, 3, 4, 5}, {5, 4, 3, 2, 1}, {-1, -2, -3, -4, -5}, {math.MinInt, math.MaxInt, math.MinInt, math.MaxInt, math.MinInt}, {math.MaxInt, math.MinInt, math.MaxInt, math.MinInt, math.MaxInt}, {0x0102030405060708, 0x1112131415161718, 0x2122232425262728, 0x3132333435363738, 0x4142434445464748}} {
			l = append(l, cut(made(k, n, nil)))
		}
	}
	for _, n := range []int{1, 10, 17, 63, 64} {
		l = append(l, made(api.Sense, list{}, full(n)))
	}
	return l
}

// right are those, and such that have each number at each place that their kind has, and others.
func right() []api.Command {
	l := few()
	for k := range api.Kind(kinds) {
		for place := range wordsNumbers(k) {
			for _, n := range edges() {
				l = append(l, with(made(k, list{}, nil), place, n), with(cut(made(k, list{9, 8, 7, 6, 5}, nil)), place, n))
			}
		}
	}
	for n := range frame + 1 {
		l = append(l, made(api.Sense, list{}, make([]byte, n)), made(api.Sense, list{}, full(n)), made(api.Sense, list{}, bytes.Repeat([]byte{255}, n)))
	}
	d := dice(18)
	for range 2000 {
		l = append(l, d.command())
	}
	return l
}

// wrong are commands that may not be, for one thing each.
func wrong() (l []api.Command) {
	for _, c := range few() {
		for place := wordsNumbers(c.Kind); place < places; place++ {
			for _, n := range []int{1, -1, 256, 1 << 32, 1 << 62, -1 << 62, math.MinInt, math.MaxInt} {
				l = append(l, with(c, place, n))
			}
		}
		for _, n := range []int{1, 2, 17, 63, 64, 65, 66, 256, 1 << 16} {
			if c.Kind != api.Sense || n > frame {
				l = append(l, withBytes(c, make([]byte, n)), withBytes(c, full(n)))
			}
		}
	}
	for _, k := range none() {
		l = append(l, made(api.Kind(k), list{}, nil), made(api.Kind(k), list{1}, nil), made(api.Kind(k), list{1, 2, 3, 4, 5}, nil), made(api.Kind(k), list{}, full(3)))
	}
	return l
}

// The words: each of these reckons what a call answers, as its words say it.

func wordsNumbers(k api.Kind) int {
	switch k {
	case api.Sense:
		return 0
	case api.Tick, api.Release, api.Hold, api.Reject, api.Allocate, api.Free, api.Ship:
		return 1
	case api.Move, api.Split, api.Merge, api.Review, api.Want:
		return 2
	case api.AddProduct:
		return 3
	case api.Receive:
		return 4
	case api.AddZone:
		return 5
	}
	return -1
}

func mayBe(c api.Command) bool {
	count := wordsNumbers(c.Kind)
	if count < 0 {
		return false
	}
	for place, n := range numbers(c) {
		if place >= count && n != 0 {
			return false
		}
	}
	if c.Kind == api.Sense {
		return len(c.Bytes) <= frame
	}
	return len(c.Bytes) == 0
}

// wordsBytes are the bytes of a command that may be; of one that may not be, what they would be.
func wordsBytes(c api.Command) []byte {
	b := []byte{byte(c.Kind)}
	for place, n := range numbers(c) {
		if place < wordsNumbers(c.Kind) {
			b = binary.BigEndian.AppendUint64(b, uint64(n))
		}
	}
	if c.Kind == api.Sense {
		b = binary.BigEndian.AppendUint32(b, uint32(len(c.Bytes)))
		b = append(b, c.Bytes...)
	}
	return b
}

func wordsCommand(b []byte) (api.Command, api.Errno) {
	if len(b) == 0 || b[0] >= kinds {
		return api.Command{}, api.ErrForm
	}
	c, rest := api.Command{Kind: api.Kind(b[0])}, b[1:]
	if c.Kind == api.Sense {
		if len(rest) < 4 || len(rest) > 4+frame || int(binary.BigEndian.Uint32(rest)) != len(rest)-4 {
			return api.Command{}, api.ErrForm
		}
		return withBytes(c, rest[4:]), api.OK
	}
	if len(rest) != 8*wordsNumbers(c.Kind) {
		return api.Command{}, api.ErrForm
	}
	for place := range wordsNumbers(c.Kind) {
		c = with(c, place, int(binary.BigEndian.Uint64(rest[8*place:])))
	}
	return c, api.OK
}

func wordsSame(a, b api.Command) bool {
	return a.Kind == b.Kind && a.A == b.A && a.B == b.B && a.C == b.C && a.D == b.D && a.E == b.E && string(a.Bytes) == string(b.Bytes)
}

// Each of these wants what is written out, and that it is so by the words.

func wantNumbers(t *testing.T, k api.Kind, want int) {
	t.Helper()
	if n := wordsNumbers(k); n != want {
		t.Fatalf("Numbers(%d): by the words %d, not %d", k, n, want)
	}
	if n := command.Numbers(k); n != want {
		t.Fatalf("Numbers(%d): %d, not %d", k, n, want)
	}
}

func wantRight(t *testing.T, c api.Command, want bool) {
	t.Helper()
	if mayBe(c) != want {
		t.Fatalf("%+v: by the words right %t", c, !want)
	}
	if command.Right(c) != want {
		t.Fatalf("%+v: right %t", c, !want)
	}
}

func wantBytes(t *testing.T, c api.Command, want []byte) {
	t.Helper()
	if b, e := command.Encode(c); !bytes.Equal(b, want) || e != api.OK {
		t.Fatalf("Encode(%+v): %x, error %d, not %x", c, b, e, want)
	}
}

func wantCommand(t *testing.T, b []byte, want api.Command, wantE api.Errno) {
	t.Helper()
	if c, e := wordsCommand(b); !wordsSame(c, want) || e != wantE {
		t.Fatalf("Decode(%x): by the words %+v, error %d, not %+v, %d", b, c, e, want, wantE)
	}
	if c, e := command.Decode(b); !wordsSame(c, want) || e != wantE {
		t.Fatalf("Decode(%x): %+v, error %d, not %+v, %d", b, c, e, want, wantE)
	}
}

func wantNone(t *testing.T, b []byte) {
	t.Helper()
	wantCommand(t, b, api.Command{}, api.ErrForm)
}

// wantWrong wants a command to be one that may not be.
func wantWrong(t *testing.T, c api.Command) {
	t.Helper()
	wantRight(t, c, false)
	if b, e := command.Encode(c); len(b) != 0 || e != api.ErrArg {
		t.Fatalf("Encode(%+v): %x, error %d", c, b, e)
	}
}

// wantThereAndBack wants a command to be that of its bytes, and these to be its.
func wantThereAndBack(t *testing.T, c api.Command) {
	t.Helper()
	wantRight(t, c, true)
	wantBytes(t, c, wordsBytes(c))
	b, _ := command.Encode(c)
	wantCommand(t, b, c, api.OK)
}

// wantSame wants two to have the same, or not, whichever is asked of first.
func wantSame(t *testing.T, a, b api.Command, want bool) {
	t.Helper()
	if wordsSame(a, b) != want {
		t.Fatalf("%+v and %+v: by the words the same %t", a, b, !want)
	}
	if command.Same(a, b) != want || command.Same(b, a) != want {
		t.Fatalf("%+v and %+v: the same %t, %t", a, b, command.Same(a, b), command.Same(b, a))
	}
}

// P18.1, O1: each of the sixteen kinds, how many numbers it has, and what is no kind; MaxFrame is 64.
func TestNumbers(t *testing.T) {
	for k, want := range []int{0, 1, 5, 3, 4, 2, 2, 2, 1, 1, 2, 1, 2, 1, 1, 1} {
		wantNumbers(t, api.Kind(k), want)
	}
	for k, want := range map[api.Kind]int{api.Sense: 0, api.Tick: 1, api.AddZone: 5, api.AddProduct: 3, api.Receive: 4, api.Move: 2, api.Split: 2, api.Merge: 2, api.Release: 1, api.Hold: 1, api.Review: 2, api.Reject: 1, api.Want: 2, api.Allocate: 1, api.Free: 1, api.Ship: 1} {
		wantNumbers(t, k, want)
	}
	for _, k := range none() {
		wantNumbers(t, api.Kind(k), -1)
	}
	for k := -300; k < 1000; k++ {
		if k < 0 || k >= kinds {
			wantNumbers(t, api.Kind(k), -1)
		}
	}
	if command.MaxFrame != frame {
		t.Errorf("MaxFrame is %d", command.MaxFrame)
	}
}

// P18.1, O1: a command of each kind, and its bytes, one by one.
func TestKnownBytes(t *testing.T) {
	for _, x := range []struct {
		c     api.Command
		bytes string
	}{
		{api.Command{}, "00 00000000"},
		{api.Command{Kind: api.Sense, Bytes: []byte{7}}, "00 00000001 07"},
		{api.Command{Kind: api.Sense, Bytes: []byte{0, 0}}, "00 00000002 0000"},
		{api.Command{Kind: api.Sense, Bytes: []byte("rime")}, "00 00000004 72696d65"},
		{api.Command{Kind: api.Sense, Bytes: make([]byte, 64)}, "00 00000040" + strings.Repeat("00", 64)},
		{api.Command{Kind: api.Tick}, "01 0000000000000000"},
		{api.Command{Kind: api.Tick, A: 60}, "01 000000000000003c"},
		{api.Command{Kind: api.Tick, A: -1}, "01 ffffffffffffffff"},
		{api.Command{Kind: api.AddZone, A: 3, B: -100, C: 5, D: 40, E: 13}, "02 0000000000000003 ffffffffffffff9c 0000000000000005 0000000000000028 000000000000000d"},
		{api.Command{Kind: api.AddProduct, A: 3, B: 40, C: 1 << 62}, "03 0000000000000003 0000000000000028 4000000000000000"},
		{api.Command{Kind: api.Receive, A: 3, B: 1, C: 20, D: 900}, "04 0000000000000003 0000000000000001 0000000000000014 0000000000000384"},
		{api.Command{Kind: api.Move, A: 1, B: 258}, "05 0000000000000001 0000000000000102"},
		{api.Command{Kind: api.Split, A: 1, B: 8}, "06 0000000000000001 0000000000000008"},
		{api.Command{Kind: api.Merge, A: 1, B: 2}, "07 0000000000000001 0000000000000002"},
		{api.Command{Kind: api.Release, A: math.MaxInt}, "08 7fffffffffffffff"},
		{api.Command{Kind: api.Hold, A: math.MinInt}, "09 8000000000000000"},
		{api.Command{Kind: api.Review, A: 4, B: -2}, "0a 0000000000000004 fffffffffffffffe"},
		{api.Command{Kind: api.Reject, A: 0x0102030405060708}, "0b 0102030405060708"},
		{api.Command{Kind: api.Want, A: 3, B: 1 << 20}, "0c 0000000000000003 0000000000100000"},
		{api.Command{Kind: api.Allocate, A: 64}, "0d 0000000000000040"},
		{api.Command{Kind: api.Free, A: -256}, "0e ffffffffffffff00"},
		{api.Command{Kind: api.Ship, A: math.MinInt + 1}, "0f 8000000000000001"},
	} {
		b, err := hex.DecodeString(strings.ReplaceAll(x.bytes, " ", ""))
		if err != nil {
			t.Fatalf("%s: %v", x.bytes, err)
		}
		wantBytes(t, x.c, b)
		wantCommand(t, b, x.c, api.OK)
		wantThereAndBack(t, x.c)
	}
}

// P18.1, O1: each number alone stands at its own place in the bytes, the highest byte first.
func TestOrderOfNumbers(t *testing.T) {
	n := 0x0102030405060708
	for k := range api.Kind(kinds) {
		for place, c := range []api.Command{{Kind: k, A: n}, {Kind: k, B: n}, {Kind: k, C: n}, {Kind: k, D: n}, {Kind: k, E: n}} {
			if place >= wordsNumbers(k) {
				wantWrong(t, c)
				continue
			}
			want := make([]byte, 1+8*wordsNumbers(k))
			want[0] = byte(k)
			copy(want[1+8*place:], []byte{1, 2, 3, 4, 5, 6, 7, 8})
			wantBytes(t, c, want)
			wantCommand(t, want, c, api.OK)
		}
	}
}

// P18.1, P18.2: of each kind numbers that are any, at the ends of int too, at each place that it has; Bytes of each length that may be.
func TestRightCommands(t *testing.T) {
	for _, c := range right() {
		wantThereAndBack(t, c)
	}
}

// P18.1, O1: of each kind a number that is not 0, at each place behind those that it has; Bytes where there are none, or more than 64; what is no kind.
func TestWrongCommands(t *testing.T) {
	for k := range api.Kind(kinds) {
		for place := command.Numbers(k); place < places; place++ {
			for _, n := range edges() {
				wantRight(t, with(made(k, list{}, nil), place, n), n == 0)
			}
		}
	}
	for _, c := range wrong() {
		wantWrong(t, c)
	}
}

// P18.1, O1: two numbers behind those that a kind has, that would be 0 together, are not 0.
func TestNumbersBehindTogether(t *testing.T) {
	for _, c := range few() {
		for place := wordsNumbers(c.Kind); place < places; place++ {
			for other := wordsNumbers(c.Kind); other < place; other++ {
				for _, n := range []int{1, -1, math.MinInt} {
					wantWrong(t, with(with(c, place, n), other, -n))
					wantWrong(t, with(with(c, place, n), other, n))
				}
			}
		}
	}
}

// P18.1, O1: Bytes that are nil, and such as are empty, of each kind; behind an empty length lies no more than nothing.
func TestNoBytes(t *testing.T) {
	for _, c := range few() {
		if len(c.Bytes) > 0 {
			continue
		}
		for _, b := range [][]byte{nil, {}, full(9)[:0], full(80)[40:40]} {
			wantRight(t, withBytes(c, b), true)
			wantBytes(t, withBytes(c, b), wordsBytes(c))
			wantSame(t, c, withBytes(c, b), true)
		}
	}
	for k := range api.Kind(kinds) {
		c, e := command.Decode(wordsBytes(made(k, list{}, nil)))
		if len(c.Bytes) != 0 || e != api.OK {
			t.Errorf("kind %d: %+v, error %d", k, c, e)
		}
	}
}

// P18.1, O1: Sense with no Bytes, one, 63, 64, 65, and more, and with each number that is not 0; whatever the Bytes are, they need not be a frame's.
func TestSense(t *testing.T) {
	for n := range 300 {
		for _, b := range [][]byte{make([]byte, n), full(n), bytes.Repeat([]byte{255}, n)} {
			c := made(api.Sense, list{}, b)
			wantRight(t, c, n <= 64)
			if n > 64 {
				wantWrong(t, c)
				wantNone(t, wordsBytes(c))
			} else {
				wantThereAndBack(t, c)
			}
			for place := range places {
				wantWrong(t, with(c, place, 1))
				wantWrong(t, with(c, place, -1))
				wantWrong(t, with(c, place, math.MinInt))
			}
		}
	}
	for _, n := range []int{256, 1 << 16, 1<<16 + 7, 1 << 20} {
		wantWrong(t, made(api.Sense, list{}, make([]byte, n)))
		wantNone(t, wordsBytes(made(api.Sense, list{}, make([]byte, n))))
	}
	for x := range 256 {
		wantThereAndBack(t, made(api.Sense, list{}, []byte{byte(x)}))
		wantThereAndBack(t, made(api.Sense, list{}, bytes.Repeat([]byte{byte(x)}, 64)))
	}
}

// P18.1, O1: whether a command may be is asked of its kind, its numbers, and its Bytes together.
func TestRightIsTheWords(t *testing.T) {
	d := dice(3)
	rights := 0
	for range 40000 {
		c := d.command()
		for range d.below(3) {
			switch d.below(3) {
			case 0:
				c = with(c, d.below(places), d.one(edges()...))
			case 1:
				c.Kind = d.any().Kind
			default:
				c.Bytes = d.any().Bytes
			}
		}
		if !mayBe(c) {
			wantWrong(t, c)
			continue
		}
		rights++
		wantThereAndBack(t, c)
	}
	if rights < 5000 || rights > 35000 {
		t.Errorf("%d of the commands were right", rights)
	}
}

// P18.1, O1: no bytes, each byte alone, and each as a kind ahead of so many others.
func TestKindOfBytes(t *testing.T) {
	wantNone(t, nil)
	wantNone(t, []byte{})
	for k := range 256 {
		wantNone(t, []byte{byte(k)})
		for n := range 100 {
			b := append([]byte{byte(k)}, make([]byte, n)...)
			want, wantE := wordsCommand(b)
			wantCommand(t, b, want, wantE)
			if k >= kinds && wantE != api.ErrForm {
				t.Fatalf("kind %d is one by the words", k)
			}
		}
		if k >= kinds {
			for _, c := range few() {
				b := wordsBytes(c)
				b[0] = byte(k)
				wantNone(t, b)
			}
		}
	}
}

// P18.1, O1: how long a command's bytes are: those of one kind are not those of one that has more numbers, or less.
func TestLengths(t *testing.T) {
	for k, want := range []int{5, 9, 41, 25, 33, 17, 17, 17, 9, 9, 17, 9, 17, 9, 9, 9} {
		for n := range 120 {
			b := append([]byte{byte(k)}, make([]byte, n)...)
			c, e := command.Decode(b)
			switch {
			case n+1 == want && (e != api.OK || int(c.Kind) != k):
				t.Errorf("kind %d, %d bytes: %+v, error %d", k, n+1, c, e)
			case n+1 != want && (e != api.ErrForm || !wordsSame(c, api.Command{})):
				t.Errorf("kind %d, %d bytes: %+v, error %d", k, n+1, c, e)
			}
		}
	}
}

// P18.1, O1: a Run that is longer than what is left, shorter, longer than 64, and at the ends of its four bytes.
func TestRuns(t *testing.T) {
	lengths := []uint32{0, 1, 2, 3, 31, 32, 62, 63, 64, 65, 66, 127, 128, 255, 256, 256 + 64, 1 << 16, 1<<16 + 3, 1 << 24, 1<<24 + 64, 1 << 31, 1<<31 - 1, 1<<31 + 5, math.MaxUint32 - 1, math.MaxUint32}
	for _, length := range lengths {
		for _, left := range []int{0, 1, 2, 3, 5, 31, 62, 63, 64, 65, 66, 127, 128, 256, 320} {
			b := binary.BigEndian.AppendUint32([]byte{0}, length)
			b = append(b, full(left)...)
			if int(length) == left && left <= 64 {
				wantCommand(t, b, made(api.Sense, list{}, full(left)), api.OK)
			} else {
				wantNone(t, b)
			}
		}
	}
	wantNone(t, []byte{0, 0, 0, 0})
	wantNone(t, []byte{0, 0, 0})
	wantNone(t, []byte{0, 0})
}

// P18.2: a command that may be is that of its bytes; no two have the same.
func TestThereAndBack(t *testing.T) {
	had := map[string]api.Command{}
	for _, c := range right() {
		b, e := command.Encode(c)
		if e != api.OK {
			t.Fatalf("Encode(%+v): %x, error %d", c, b, e)
		}
		if other, there := had[string(b)]; there && !command.Same(other, c) {
			t.Fatalf("%+v and %+v have the same bytes %x", c, other, b)
		}
		had[string(b)] = c
		if back, e := command.Decode(b); !command.Same(back, c) || !wordsSame(back, c) || e != api.OK {
			t.Fatalf("%+v came back as %+v, error %d", c, back, e)
		}
	}
}

// P18.2: bytes that are a command's are its; what any bytes are is what the words tell.
func TestBackAndThere(t *testing.T) {
	d := dice(5)
	told := map[api.Errno]int{}
	for range 40000 {
		b := wordsBytes(d.command())
		for range d.below(3) {
			b[d.one(0, d.below(len(b)))] = byte(d.one(d.below(256), d.below(kinds)))
		}
		switch d.below(6) {
		case 0:
			b = b[:d.below(len(b)+1)]
		case 1:
			b = append(b, d.bytes(d.below(20))...)
		case 2:
			b = d.bytes(d.below(50))
		}
		want, wantE := wordsCommand(b)
		wantCommand(t, b, want, wantE)
		told[wantE]++
		if c, e := command.Decode(b); e == api.OK {
			wantRight(t, c, true)
			wantBytes(t, c, b)
		}
	}
	for _, e := range []api.Errno{api.OK, api.ErrForm} {
		if told[e] < 5000 {
			t.Errorf("just %d of the bytes were %d", told[e], e)
		}
	}
}

// P18.1, P18.2: each byte of a command's made each other one: what the bytes are is what the words tell.
func TestEachByte(t *testing.T) {
	for _, c := range few() {
		whole := wordsBytes(c)
		for i := range whole {
			for x := range 256 {
				b := bytes.Clone(whole)
				b[i] = byte(x)
				want, wantE := wordsCommand(b)
				wantCommand(t, b, want, wantE)
				if wantE == api.OK {
					wantBytes(t, want, b)
				}
			}
		}
	}
}

// P18.2: a command's bytes, cut short at any place, at their end or at their beginning, are none's.
func TestCutShort(t *testing.T) {
	for _, c := range right() {
		b := wordsBytes(c)
		for n := range b {
			wantNone(t, b[:n])
		}
	}
}

// P18.2: a command's bytes, with one more, or more, behind, are none's.
func TestMoreBehind(t *testing.T) {
	for _, c := range right() {
		b := wordsBytes(c)
		for _, more := range [][]byte{{0}, {1}, {255}, {0, 0}, make([]byte, 7), make([]byte, 8), full(8), make([]byte, 16), make([]byte, 64), b, make([]byte, 1000)} {
			wantNone(t, slices.Concat(b, more))
		}
	}
	d := dice(6)
	for range 2000 {
		wantNone(t, append(wordsBytes(d.command()), d.bytes(1+d.below(70))...))
	}
	for _, c := range few() {
		wantNone(t, append(wordsBytes(c), make([]byte, 1<<16)...))
	}
}

// P18.1, O1: two that differ in one place alone, in each place, or in their Bytes alone, whether they may be or not.
func TestSame(t *testing.T) {
	base := append(few(), made(api.Tick, list{1, 2, 3, 4, 5}, full(4)), made(-1, list{1, 2, 3, 4, 5}, full(70)), made(16, list{}, nil), made(math.MaxInt, list{-1, -1, -1, -1, -1}, nil))
	for _, c := range base {
		wantSame(t, c, c, true)
		wantSame(t, c, withBytes(c, bytes.Clone(c.Bytes)), true)
		for place := range places {
			was := numbers(c)[place]
			for _, n := range []int{was ^ 1, was ^ 256, was ^ 1<<32, was ^ 1<<62, was ^ math.MinInt, ^was} {
				wantSame(t, c, with(c, place, n), false)
			}
			wantSame(t, c, with(c, place, was), true)
		}
		for _, k := range append(none(), 0, 1, 2, 3, 4, 5, 6, 7, 8, 9, 10, 11, 12, 13, 14, 15) {
			wantSame(t, c, withKind(c, api.Kind(k)), c.Kind == api.Kind(k))
		}
		wantSame(t, c, withBytes(c, append(bytes.Clone(c.Bytes), 0)), false)
		wantSame(t, c, withBytes(c, append([]byte{1}, c.Bytes...)), false)
		for i := range c.Bytes {
			b := bytes.Clone(c.Bytes)
			b[i] ^= 1
			wantSame(t, c, withBytes(c, b), false)
			wantSame(t, c, withBytes(c, c.Bytes[:i]), false)
		}
	}
}

// P18.1, O1: two whose numbers, or Bytes, are the same in other places.
func TestSameInOtherPlaces(t *testing.T) {
	for place := range places {
		for other := range places {
			for k := range api.Kind(kinds) {
				wantSame(t, with(made(k, list{}, nil), place, 7), with(made(k, list{}, nil), other, 7), place == other)
				wantSame(t, with(made(k, list{1, 1, 1, 1, 1}, nil), place, 0), with(made(k, list{1, 1, 1, 1, 1}, nil), other, 0), place == other)
			}
		}
	}
	wantSame(t, made(0, list{1}, nil), made(1, list{}, nil), false)
	wantSame(t, made(0, list{}, []byte{1, 2}), made(0, list{}, []byte{2, 1}), false)
	wantSame(t, made(0, list{}, []byte{0}), made(0, list{}, []byte{0, 0}), false)
	wantSame(t, made(0, list{}, []byte{0}), made(0, list{}, nil), false)
	wantSame(t, made(0, list{}, nil), made(0, list{}, []byte{}), true)
	wantSame(t, made(7, list{}, []byte{}), made(7, list{}, nil), true)
	wantSame(t, api.Command{}, made(0, list{}, []byte{}), true)
}

// P18.1, O1: of many commands just those are the same that are so by the words.
func TestSameOfMany(t *testing.T) {
	l := append(few(), wrong()[:200]...)
	d := dice(9)
	for range 100 {
		l = append(l, d.any())
	}
	for i, a := range l {
		for _, b := range l[i:] {
			if got := command.Same(a, b); got != wordsSame(a, b) || command.Same(b, a) != got {
				t.Fatalf("%+v and %+v: the same %t", a, b, got)
			}
		}
	}
}

// roomy are the same bytes, with others behind their length in their memory.
func roomy(b, behind []byte) []byte {
	return slices.Concat(b, behind)[:len(b)]
}

// spoil turns all bits of bytes, and of what lies behind them in their memory.
func spoil(b []byte) {
	for i := range b[:cap(b)] {
		b[:cap(b)][i] ^= 255
	}
}

// Rule 4: bytes that Decode is handed stay as they were, and so does what lies behind them; that makes no difference.
func TestBytesHandedInStay(t *testing.T) {
	l := [][]byte{nil, {}, {0}, {1}, {16}, []byte("hoarfrost!"), make([]byte, 66)}
	for _, c := range few() {
		b := wordsBytes(c)
		l = append(l, b, b[:len(b)-1], append(bytes.Clone(b), 0), b[:1])
	}
	for _, b := range l {
		want, wantE := wordsCommand(b)
		for _, behind := range [][]byte{nil, {0xaa}, make([]byte, 80), b, full(70)} {
			room := roomy(b, behind)
			whole := bytes.Clone(room[:cap(room)])
			if c, e := command.Decode(room); !wordsSame(c, want) || e != wantE {
				t.Errorf("Decode(%x), with %x behind: %+v, error %d, not %+v, %d", b, behind, c, e, want, wantE)
			}
			if !bytes.Equal(room[:cap(room)], whole) {
				t.Errorf("%x was changed: %x", whole, room[:cap(room)])
			}
		}
	}
}

// Rule 4: Bytes of a command that is handed in stay as they were, and so does what lies behind them; that makes no difference.
func TestCommandHandedInStays(t *testing.T) {
	for _, n := range []int{0, 1, 10, 17, 63, 64, 65, 80} {
		for _, behind := range [][]byte{nil, {0xaa}, make([]byte, 80), full(70)} {
			for _, k := range []api.Kind{api.Sense, api.Tick, api.AddZone, -1, 16} {
				room := roomy(full(n), behind)
				whole := bytes.Clone(room[:cap(room)])
				c := made(k, list{}, room)
				same := made(k, list{}, full(n))
				wantRight(t, c, mayBe(same))
				b, e := command.Encode(c)
				if mayBe(same) != (e == api.OK) || e == api.OK && !bytes.Equal(b, wordsBytes(same)) {
					t.Errorf("Encode(%+v): %x, error %d", c, b, e)
				}
				wantSame(t, c, same, true)
				spoil(b)
				if !bytes.Equal(room[:cap(room)], whole) || len(c.Bytes) != n {
					t.Errorf("%x was changed: %x", whole, room[:cap(room)])
				}
			}
		}
	}
}

// Rule 4: what Encode answers is new, each time: bytes that are changed behind it change no command, and a command that is changed behind it no bytes.
func TestEncodeIsNew(t *testing.T) {
	for _, c := range few() {
		kept := withBytes(c, bytes.Clone(c.Bytes))
		first, _ := command.Encode(c)
		second, _ := command.Encode(c)
		back, _ := command.Decode(first)
		spoil(first)
		_ = append(first[:1], 9, 9, 9)
		if !bytes.Equal(second, wordsBytes(kept)) || !wordsSame(back, kept) || !wordsSame(c, kept) {
			t.Errorf("%+v shares its bytes: %x, %+v, %+v", kept, second, back, c)
		}
		wantBytes(t, c, wordsBytes(kept))
		spoil(c.Bytes)
		if !bytes.Equal(second, wordsBytes(kept)) {
			t.Errorf("%+v shares its bytes: %x", kept, second)
		}
	}
}

// Rule 4: what Decode answers is new, each time: bytes that are changed behind it change no command, and a command that is changed behind it no bytes, and no other command.
func TestDecodeIsNew(t *testing.T) {
	for _, c := range few() {
		b := roomy(wordsBytes(c), full(9))
		first, _ := command.Decode(b)
		second, _ := command.Decode(b)
		spoil(first.Bytes)
		_ = append(first.Bytes, 9, 9, 9)
		if !bytes.Equal(b, wordsBytes(c)) || !bytes.Equal(b[:cap(b)][len(b):][:9], full(9)) || !wordsSame(second, c) {
			t.Errorf("%+v shares its bytes: %x, %+v", c, b, second)
		}
		spoil(b)
		if !wordsSame(second, c) {
			t.Errorf("%+v came as %+v", c, second)
		}
		wantThereAndBack(t, second)
	}
}

// P1, P2: each call ends, at whatever it is given, and answers the same again, whatever was asked between.
func TestAgain(t *testing.T) {
	ask := func() (told []string) {
		d := dice(21)
		for range 3000 {
			c, other := d.any(), d.any()
			b, e := command.Encode(c)
			back, backE := command.Decode(b)
			some, someE := command.Decode(d.bytes(d.below(60)))
			told = append(told, fmt.Sprint(command.Numbers(c.Kind), command.Right(c), b, e, back, backE, some, someE, command.Same(c, other), command.Same(c, c)))
		}
		return told
	}
	first := ask()
	for range 2 {
		if again := ask(); !slices.Equal(again, first) {
			t.Fatal("asked again, another answer")
		}
	}
}
