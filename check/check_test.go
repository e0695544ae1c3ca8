package check_test

import (
	"bytes"
	"math/big"
	"slices"
	"strings"
	"testing"

	"hoarfrost/check"
)

// spread are n bytes, the same in each run.
func spread(n int) []byte {
	b, x := make([]byte, n), uint64(3)
	for i := range b {
		x = x*6364136223846793005 + 1442695040888963407
		b[i] = byte((x ^ x>>31) * 0x9e3779b97f4a7c15 >> 56)
	}
	return b
}

// lists are bytes of many kinds: none, all single ones, all noughts, all ones, and others, short and long.
func lists() [][]byte {
	l := [][]byte{nil, {}, []byte("123456789"), []byte("hoar"), []byte(strings.Repeat("A", 256))}
	for x := range 256 {
		l = append(l, []byte{byte(x)}, []byte{0, byte(x)}, []byte{byte(x), 255})
	}
	for n := range 100 {
		l = append(l, make([]byte, n), bytes.Repeat([]byte{255}, n), spread(n))
	}
	return append(l, spread(300), spread(1000))
}

// remainder is the sum by a long division, reckoned as a whole: the bits behind one another, 16 noughts behind them, and the first 16 of all turned, are divided without carrying by 65536 and 4129.
func remainder(b []byte) uint16 {
	all := new(big.Int).SetBytes(append(bytes.Clone(b), 0, 0))
	first := big.NewInt(65535)
	all.Xor(all, first.Lsh(first, uint(8*len(b))))
	divisor := big.NewInt(65536 + 4129)
	for all.BitLen() > 16 {
		all.Xor(all, new(big.Int).Lsh(divisor, uint(all.BitLen()-17)))
	}
	return uint16(all.Uint64())
}

// bytewise is the sum, a byte at once: 4129 is 1 and 32 and 4096, so that its bits are those of three shifts.
func bytewise(b []byte) uint16 {
	sum := uint16(65535)
	for _, x := range b {
		high := uint16(x) ^ sum>>8
		high ^= high >> 4
		sum = sum<<8 ^ high<<12 ^ high<<5 ^ high
	}
	return sum
}

// roomy are the same bytes, with others behind their length in their memory.
func roomy(b []byte) []byte {
	whole := append(bytes.Clone(b), 0xaa, 0xbb, 0xcc, 0xdd, 0xee)
	return whole[:len(b)]
}

// spoil turns all bits of bytes, and of what lies behind them in their memory.
func spoil(b []byte) {
	b = b[:cap(b)]
	for i := range b {
		b[i] ^= 255
	}
}

func wantOf(t *testing.T, b []byte, want uint16) {
	t.Helper()
	if got := check.Of(b); got != want {
		t.Errorf("Of(%d bytes, %x first): %d, not %d", len(b), b[:min(len(b), 8)], got, want)
	}
}

func wantGood(t *testing.T, b []byte) {
	t.Helper()
	if !check.Good(b) {
		t.Errorf("Good(%d bytes, %x first): false", len(b), b[:min(len(b), 8)])
	}
	if got, ok := check.Open(b); !ok || !bytes.Equal(got, b[:len(b)-2]) {
		t.Errorf("Open(%d bytes, %x first): %t, %d bytes", len(b), b[:min(len(b), 8)], ok, len(got))
	}
}

func wantBad(t *testing.T, b []byte) {
	t.Helper()
	if check.Good(b) {
		t.Errorf("Good(%d bytes, %x first): true", len(b), b[:min(len(b), 8)])
	}
	if got, ok := check.Open(b); ok || len(got) != 0 {
		t.Errorf("Open(%d bytes, %x first): %t, %d bytes", len(b), b[:min(len(b), 8)], ok, len(got))
	}
}

// P3.1, C1: sums that are known, that of no bytes among them.
func TestKnownSums(t *testing.T) {
	for s, want := range map[string]uint16{
		"": 65535, "123456789": 0x29b1, "A": 0xb915, "\x00": 0xe1f0, "\xff": 0xff00, "\xff\xff": 0,
		strings.Repeat("A", 256): 0xea0b,
	} {
		wantOf(t, []byte(s), want)
	}
	wantOf(t, nil, 65535)
}

// P3.1, C1: sums against those that are reckoned in two other ways.
func TestSumsAreTheWords(t *testing.T) {
	for _, b := range lists() {
		want := remainder(b)
		wantOf(t, b, want)
		if other := bytewise(b); other != want {
			t.Errorf("the test's own two ways differ at %d bytes: %d, %d", len(b), want, other)
		}
	}
}

// P3.1, C1: the order of bytes counts, and so do noughts, ahead and behind.
func TestWhatMakesADifference(t *testing.T) {
	seen := map[uint16]string{}
	for _, s := range []string{"", "\x00", "\x00\x00", "\x00\x00\x00", "ab", "ba", "ab\x00", "\x00ab", "a\x00b", "AB", "abab"} {
		sum := check.Of([]byte(s))
		if other, ok := seen[sum]; ok {
			t.Errorf("%q and %q have one sum, %d", s, other, sum)
		}
		seen[sum] = s
	}
}

// P3.1, C1: many bytes.
func TestManyBytes(t *testing.T) {
	for _, b := range [][]byte{spread(1<<20 + 7), make([]byte, 1<<20), bytes.Repeat([]byte{255}, 1<<16+1)} {
		sum := bytewise(b)
		wantOf(t, b, sum)
		sealed := check.Seal(b)
		if !bytes.Equal(sealed, append(bytes.Clone(b), byte(sum>>8), byte(sum))) {
			t.Errorf("Seal(%d bytes) is not these, and their sum", len(b))
		}
		wantGood(t, sealed)
		for _, i := range []int{0, 1, len(b) / 2, len(b) - 1, len(b), len(b) + 1} {
			sealed[i] ^= 16
			wantBad(t, sealed)
			sealed[i] ^= 16
		}
	}
}

// P3.1, C1: bytes, and their sum behind them, the higher byte first.
func TestSeal(t *testing.T) {
	for s, want := range map[string]string{"": "\xff\xff", "123456789": "123456789\x29\xb1", "A": "A\xb9\x15", "\xff": "\xff\xff\x00", "\xff\xff": "\xff\xff\x00\x00"} {
		if got := check.Seal([]byte(s)); string(got) != want {
			t.Errorf("Seal(%q): %q, not %q", s, got, want)
		}
	}
	if got := check.Seal(nil); string(got) != "\xff\xff" {
		t.Errorf("Seal(nil): %q", got)
	}
	for _, b := range lists() {
		sum := remainder(b)
		if got := check.Seal(b); !bytes.Equal(got, append(bytes.Clone(b), byte(sum>>8), byte(sum))) {
			t.Errorf("Seal(%x): %x", b, got)
		}
	}
}

// P3.1, C1: what is shorter than two bytes is not good.
func TestTooShort(t *testing.T) {
	wantBad(t, nil)
	wantBad(t, []byte{})
	for x := range 256 {
		wantBad(t, []byte{byte(x)})
	}
}

// P3.1, C1: of all two last bytes just the sum makes bytes good; without any ahead, just 255 and 255.
func TestJustTheSumIsGood(t *testing.T) {
	for _, b := range [][]byte{nil, {0}, []byte("frost"), spread(20)} {
		sum := remainder(b)
		for last := range 65536 {
			whole := append(bytes.Clone(b), byte(last>>8), byte(last))
			if good := check.Good(whole); good != (last == int(sum)) {
				t.Errorf("Good(%x): %t", whole, good)
			}
			if got, ok := check.Open(whole); ok != (last == int(sum)) || ok && !bytes.Equal(got, b) || !ok && len(got) != 0 {
				t.Errorf("Open(%x): %x %t", whole, got, ok)
			}
		}
	}
}

// P3.1, C1: bytes that were sealed, and then had their sum's bytes changed over, lost some, or got some.
func TestNotAsTheyWere(t *testing.T) {
	for _, s := range []string{"A", "123456789", "hoarfrost"} {
		sealed := check.Seal([]byte(s))
		n := len(sealed)
		swapped := append(bytes.Clone(sealed[:n-2]), sealed[n-1], sealed[n-2])
		for _, b := range [][]byte{[]byte(s), swapped, sealed[:n-1], sealed[1:], append([]byte{0}, sealed...), append(bytes.Clone(sealed), 1)} {
			wantBad(t, b)
		}
	}
}

// P3.1, P3.2: sealed bytes are good, and are opened as they were; sealed twice, opened twice.
func TestSealedIsGood(t *testing.T) {
	for _, b := range lists() {
		sealed := check.Seal(b)
		if len(sealed) != len(b)+2 || !bytes.Equal(sealed[:len(b)], b) {
			t.Errorf("Seal(%x): %x", b, sealed)
		}
		wantGood(t, sealed)
		wantGood(t, check.Seal(sealed))
	}
}

// turn turns those bits of bytes, from their i-th on, that are set in a burst, its lowest bit first; of each byte either the highest bit is the first one, or the lowest.
func turn(b []byte, i int, burst uint, lowest bool) {
	for ; burst != 0; burst, i = burst>>1, i+1 {
		place := 7 - i%8
		if lowest {
			place = i % 8
		}
		b[i/8] ^= byte(burst&1) << place
	}
}

// P3.2: all bursts, at all places, whichever bit of a byte is called its first one.
func TestAllBursts(t *testing.T) {
	for n := range 3 {
		b := check.Seal(spread(n))
		for i := range 8 * len(b) {
			long := min(16, 8*len(b)-i)
			for burst := uint(1); burst < 1<<long; burst += 2 {
				for _, lowest := range []bool{false, true} {
					turn(b, i, burst, lowest)
					if check.Good(b) {
						t.Errorf("%d bytes, burst %x at bit %d: good", n, burst, i)
					}
					turn(b, i, burst, lowest)
				}
			}
		}
		wantGood(t, b)
	}
}

// P3.2: in longer bytes each bit, each two bits, and some bursts, at each place, in both orders of a byte's bits.
func TestBurstsInLongerBytes(t *testing.T) {
	bursts := []uint{1, 0xffff, 0x8001, 0x8811, 0x1021, 0x8408, 0x8005}
	for two := uint(3); two < 1<<16; two = two<<1 - 1 {
		bursts = append(bursts, two)
	}
	for _, b := range [][]byte{make([]byte, 100), bytes.Repeat([]byte{255}, 64), spread(9), spread(15), spread(64), spread(100)} {
		sealed := check.Seal(b)
		for i := range 8 * len(sealed) {
			for _, burst := range bursts {
				if burst >= 1<<min(16, 8*len(sealed)-i) {
					continue
				}
				for _, lowest := range []bool{false, true} {
					turn(sealed, i, burst, lowest)
					wantBad(t, sealed)
					turn(sealed, i, burst, lowest)
				}
			}
		}
		wantGood(t, sealed)
	}
}

// Rule 4: what is handed in stays as it was, and so does what lies behind it.
func TestHandedInStays(t *testing.T) {
	for _, s := range []string{"", "A", "123456789", "123456789\x29\xb1", "\xff\xff"} {
		b := roomy([]byte(s))
		whole := bytes.Clone(b[:cap(b)])
		check.Of(b)
		check.Good(b)
		opened, _ := check.Open(b)
		spoil(check.Seal(b))
		spoil(opened)
		if !bytes.Equal(b[:cap(b)], whole) {
			t.Errorf("%q was changed: %q, not %q", s, b[:cap(b)], whole)
		}
	}
}

// Rule 4: what lies behind a list's length makes no difference.
func TestBehindTheLength(t *testing.T) {
	for _, b := range lists() {
		wantOf(t, roomy(b), remainder(b))
		if !bytes.Equal(check.Seal(roomy(b)), check.Seal(b)) {
			t.Errorf("Seal(%x) hangs on what is behind", b)
		}
	}
	sealed := check.Seal([]byte("frost"))
	wantGood(t, roomy(sealed))
	wantBad(t, sealed[:len(sealed)-1])
	wantBad(t, sealed[:0])
}

// Rule 4: what is answered is new memory each time, and stays, whatever becomes of what was handed in.
func TestAnswersAreNew(t *testing.T) {
	for _, s := range []string{"", "A", "123456789"} {
		b := roomy([]byte(s))
		sealed, again := check.Seal(b), check.Seal(b)
		spoil(b)
		spoil(again)
		if string(sealed[:len(s)]) != s {
			t.Errorf("Seal(%q) shares memory: %q", s, sealed)
		}
		wantGood(t, sealed)
		opened, _ := check.Open(sealed)
		again, _ = check.Open(sealed)
		spoil(again)
		spoil(sealed)
		if string(opened) != s {
			t.Errorf("Open(sealed %q) shares memory: %q", s, opened)
		}
	}
}

// P1, P2: each call ends, at whatever it is given, and answers the same again, whatever was asked between.
func TestAgain(t *testing.T) {
	ask := func() (l []string) {
		for _, b := range lists() {
			sum := check.Of(b)
			opened, ok := check.Open(b)
			l = append(l, string([]byte{byte(sum >> 8), byte(sum)}), string(check.Seal(b)), string(opened))
			if ok != check.Good(b) {
				t.Errorf("%x: Open and Good differ", b)
			}
		}
		return l
	}
	if !slices.Equal(ask(), ask()) {
		t.Error("asked again, another answer")
	}
}
