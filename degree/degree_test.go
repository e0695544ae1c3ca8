package degree_test

import (
	"math"
	"math/big"
	"regexp"
	"slices"
	"strconv"
	"strings"
	"testing"

	"hoarfrost/api"
	"hoarfrost/degree"
)

// tiny is the least float64 above 0, normal the least one that is not subnormal.
const (
	tiny   = math.SmallestNonzeroFloat64
	normal = 0x1p-1022
)

// topFloat is the float64 of Top.
const topFloat = 109951162777.6

// numbers are some of all sizes, the same in each run.
func numbers(n int) []uint64 {
	l := make([]uint64, n)
	x := uint64(2026)
	for i := range l {
		x = x*6364136223846793005 + 1442695040888963407
		l[i] = (x ^ x>>29) * 0x9e3779b97f4a7c15
	}
	return l
}

// beside are a float64, and those that are next to it.
func beside(x float64) []float64 {
	below, above := math.Nextafter(x, math.Inf(-1)), math.Nextafter(x, math.Inf(1))
	return []float64{math.Nextafter(below, math.Inf(-1)), below, x, above, math.Nextafter(above, math.Inf(1))}
}

// floats are float64s with all the edges, without a NaN, rising.
func floats() []float64 {
	l := []float64{math.Inf(-1), math.Inf(1), 0, math.Copysign(0, -1), 0.05, 0.15, 0.25, 1e15, 1e300, math.MaxFloat64 / 10}
	for _, x := range []float64{tiny, 10 * tiny, normal / 2, normal, 0.1, 0.2, 0.3, 0.7, 1, 5.2, 4.35, 1.1, topFloat - 0.1, topFloat, topFloat + 0.1, api.Top, api.Top * 10, 1 << 53, 1 << 62, 1 << 63, 1 << 64, math.MaxFloat64} {
		l = append(l, beside(x)...)
	}
	for _, t := range tenths() {
		l = append(l, beside(float64(t)/10)...)
	}
	for _, bits := range numbers(20000) {
		l = append(l, math.Float64frombits(bits), float64(int64(bits)>>20)/1024)
	}
	for _, x := range slices.Clone(l) {
		l = append(l, -x)
	}
	l = slices.DeleteFunc(l, math.IsNaN)
	slices.Sort(l)
	return l
}

// tenths are tenths with both ends, rising.
func tenths() []int {
	l := []int{api.Top, -api.Top}
	for t := -20000; t <= 20000; t++ {
		l = append(l, t)
	}
	for i := 1; i <= 40; i++ {
		for d := -20; d <= 20; d++ {
			l = append(l, 1<<i+d, -1<<i+d)
		}
	}
	for ten := 10; ten < api.Top; ten *= 10 {
		l = append(l, ten-1, ten, ten+1, -ten-1, -ten, -ten+1)
	}
	for _, n := range numbers(20000) {
		l = append(l, int(n%(2*api.Top+1))-api.Top)
	}
	l = slices.DeleteFunc(l, func(t int) bool { return t < -api.Top || t > api.Top })
	slices.Sort(l)
	return slices.Compact(l)
}

// none are numbers that are no tenths.
func none() []int {
	return []int{api.Top + 1, -api.Top - 1, api.Top * 2, 1 << 53, -1 << 53, math.MaxInt, -math.MaxInt, math.MinInt, math.MinInt + 1}
}

// tenfold is ten times a float64, reckoned without an end, and then rounded.
func tenfold(x float64) float64 {
	if math.IsInf(x, 0) {
		return x
	}
	whole := new(big.Float).SetPrec(100).SetFloat64(x)
	f, _ := whole.Mul(whole, big.NewFloat(10)).Float64()
	return f
}

// ceiling is the least whole number that is not below a float64, within the tenths.
func ceiling(x float64) int {
	if math.IsInf(x, 0) || math.Abs(x) > 2*api.Top {
		return int(math.Copysign(api.Top, x))
	}
	n, _ := big.NewFloat(x).Int(nil)
	if new(big.Float).SetInt(n).Cmp(big.NewFloat(x)) < 0 {
		n.Add(n, big.NewInt(1))
	}
	return int(max(-api.Top, min(api.Top, n.Int64())))
}

func wantTenths(t *testing.T, x float64, want int) {
	t.Helper()
	if n, e := degree.Tenths(x); n != want || e != api.OK {
		t.Errorf("Tenths(%g): %d %d, not %d", x, n, e, want)
	}
	if n, e := degree.Of(math.Float64bits(x)); n != want || e != api.OK {
		t.Errorf("Of(the bits of %g): %d %d, not %d", x, n, e, want)
	}
}

// P1.1, D1: what the chapter names, one by one.
func TestTenthsAtTheEdges(t *testing.T) {
	for _, c := range []struct {
		x    float64
		want int
	}{
		{0, 0}, {math.Copysign(0, -1), 0},
		{math.Inf(1), api.Top}, {math.Inf(-1), -api.Top},
		{math.MaxFloat64, api.Top}, {-math.MaxFloat64, -api.Top},
		{math.MaxFloat64 / 10, api.Top}, {-math.MaxFloat64 / 10, -api.Top},
		{tiny, 1}, {-tiny, 0}, {normal, 1}, {-normal, 0}, {normal - tiny, 1}, {tiny - normal, 0},
		{5.2, 52}, {0.01, 1}, {-0.01, 0}, {-0.1, -1}, {-0.11, -1}, {-0.15, -1}, {-0.2, -2}, {0.11, 2},
		{0.05, 1}, {-0.05, 0}, {4, 40}, {-4, -40}, {4.04, 41}, {-4.06, -40},
		// The tenfold is rounded ahead of the whole number: 0.1 is above a tenth, its tenfold is 1.
		{0.1, 1}, {math.Nextafter(0.1, 1), 2}, {math.Nextafter(0.1, 0), 1}, {-math.Nextafter(0.1, 0), 0},
		{1, 10}, {math.Nextafter(1, 2), 11}, {math.Nextafter(1, 0), 10},
		{topFloat, api.Top}, {-topFloat, -api.Top},
		{109951162777.5, api.Top - 1}, {-109951162777.5, 1 - api.Top},
		{109951162777.51, api.Top}, {-109951162777.51, 1 - api.Top},
		{109951162777.7, api.Top}, {-109951162777.7, -api.Top},
		{api.Top, api.Top}, {-api.Top, -api.Top},
		{1 << 63, api.Top}, {-1 << 63, -api.Top}, {1 << 64, api.Top}, {-1 << 64, -api.Top},
	} {
		wantTenths(t, c.x, c.want)
	}
}

// P1.1, D1: against the words, reckoned exactly.
func TestTenthsAreTheWords(t *testing.T) {
	for _, x := range floats() {
		wantTenths(t, x, ceiling(tenfold(x)))
	}
}

// P1.1, D1: whatever its bits, its sign too, a NaN has none.
func TestNaN(t *testing.T) {
	const infinity = 0x7ff << 52
	fractions := []uint64{1, 2, 1 << 51, 1<<51 + 1, 1<<51 - 1, 1<<52 - 1}
	for _, n := range numbers(1000) {
		fractions = append(fractions, n>>12|1)
	}
	for _, f := range fractions {
		for _, bits := range []uint64{infinity | f, 1<<63 | infinity | f} {
			if n, e := degree.Of(bits); n != 0 || e != api.ErrForm {
				t.Errorf("Of(%x): %d %d", bits, n, e)
			}
			if n, e := degree.Tenths(math.Float64frombits(bits)); n != 0 || e != api.ErrForm {
				t.Errorf("Tenths(NaN %x): %d %d", bits, n, e)
			}
		}
	}
}

// P1.1, D1: which bits are which float64's.
func TestOfBits(t *testing.T) {
	for bits, want := range map[uint64]int{
		0: 0, 1 << 63: 0, 1: 1, 1<<63 | 1: 0, 1<<52 - 1: 1, 1 << 52: 1, 1<<63 | 1<<52: 0,
		0x3ff << 52: 10, 0xbff << 52: -10, 0x4014cccccccccccd: 52, 0xc014cccccccccccd: -52,
		0x7ff << 52: api.Top, 0xfff << 52: -api.Top, 0x7ff<<52 - 1: api.Top, 0xfff<<52 - 1: -api.Top,
	} {
		if n, e := degree.Of(bits); n != want || e != api.OK {
			t.Errorf("Of(%x): %d %d, not %d", bits, n, e, want)
		}
	}
}

// P1.1, D1: the nearest float64, by exact fractions.
func TestFloatIsTheNearest(t *testing.T) {
	for _, n := range tenths() {
		want, _ := big.NewRat(int64(n), 10).Float64()
		if x := degree.Float(n); math.Float64bits(x) != math.Float64bits(want) {
			t.Errorf("Float(%d): %g, not %g", n, x, want)
		}
	}
	for n, want := range map[int]float64{0: 0, 25: 2.5, -25: -2.5, 52: 5.2, 1: 0.1, -1: -0.1, api.Top: topFloat, -api.Top: -topFloat} {
		if x := degree.Float(n); x != want {
			t.Errorf("Float(%d): %g, not %g", n, x, want)
		}
	}
}

// P1.1, D1 and D2: what is no tenth has no float64, and no text.
func TestWhatIsNoTenth(t *testing.T) {
	for _, n := range none() {
		if x := degree.Float(n); x != 0 {
			t.Errorf("Float(%d): %g", n, x)
		}
		if s := degree.Text(n); s != "" {
			t.Errorf("Text(%d): %q", n, s)
		}
	}
}

// P1.1, D2: what texts look like.
func TestText(t *testing.T) {
	for n, want := range map[int]string{
		0: "0.0", 1: "0.1", -1: "-0.1", 5: "0.5", -5: "-0.5", 9: "0.9", -9: "-0.9", 10: "1.0", -10: "-1.0",
		99: "9.9", 100: "10.0", 101: "10.1", 1000: "100.0", -1005: "-100.5", 125: "12.5", -125: "-12.5",
		api.Top: "109951162777.6", -api.Top: "-109951162777.6", api.Top - 1: "109951162777.5", 1 - api.Top: "-109951162777.5",
	} {
		if s := degree.Text(n); s != want {
			t.Errorf("Text(%d): %q, not %q", n, s, want)
		}
	}
	for _, n := range tenths() {
		if s, want := degree.Text(n), big.NewRat(int64(n), 10).FloatString(1); s != want {
			t.Errorf("Text(%d): %q, not %q", n, s, want)
		}
	}
}

// P1.1, D2: texts that are nearly some tenth's.
func TestParseOfNone(t *testing.T) {
	for _, s := range []string{
		"", ".", "-", "0", "5", "-5", "10", ".5", "-.5", "5.", "-5.", "0.", "-0", "..", "-.", "-.-", ".0.", "1..0", "1.0.0", "0..5",
		"-0.0", "+0.0", "+1.0", "--1.0", "-+1.0", "+-1.0", "1.-0", "1.+5", "1-.0", "1.0-", "-1.-0",
		"00.0", "00.5", "01.5", "-00.5", "-01.5", "000000000001.5", "1.00", "1.25", "1.50", "0.05", "-0.05", "12.34",
		"1,5", "1:5", "1/5", "1 5", "15", "150", " 1.5", "1.5 ", "\t1.5", "1.5\n", "1 .5", "1. 5", "1.5\x00", "\x001.5",
		"1_0.5", "1_000.0", "_1.0", "1_.0", "1._", "1e1.0", "1.e", "1e0", "1.5e0", "0x1.0", "0x.5", "a.b", "1.a", "a.1", "F.0",
		"NaN", "Inf", "-Inf", "+Inf", "nan", "inf", "infinity", "null",
		"\u0661.\u0665", "\uff11.\uff15", "\u22121.5", "1\u00b75", "\xff\xff.\xff", "1.\xff",
		"109951162777.7", "-109951162777.7", "109951162777.8", "109951162778.0", "-109951162778.0", "109951162780.0",
		"0109951162777.6", "109951162777.60", "209951162777.6", "999999999999.9", "-999999999999.9", "1099511627776.0", "1099511627775.9",
		"922337203685477580.7", "-922337203685477580.8", "922337203685477580.8", "1844674407370955161.6", "1844674407370955162.1", "18446744073709551616.0",
		strings.Repeat("9", 100000) + ".9", "-" + strings.Repeat("0", 100000) + ".5", strings.Repeat(".", 100000),
	} {
		if n, e := degree.Parse(s); n != 0 || e != api.ErrForm {
			t.Errorf("Parse(%.40q): %d %d", s, n, e)
		}
	}
}

// P1.1, D2: of all short texts of some letters, just those of the form are some tenth's.
func TestParseOfAllShortTexts(t *testing.T) {
	form := regexp.MustCompile(`^-?(0|[1-9][0-9]*)\.[0-9]$`)
	var all func(s string, more int)
	all = func(s string, more int) {
		want, wantErr := 0, api.ErrForm
		if form.MatchString(s) && s != "-0.0" {
			f, _ := strconv.ParseFloat(s, 64)
			want, wantErr = int(math.Round(f*10)), api.OK
		}
		if n, e := degree.Parse(s); n != want || e != wantErr {
			t.Errorf("Parse(%q): %d %d, not %d %d", s, n, e, want, wantErr)
		}
		if more == 0 {
			return
		}
		for _, c := range "-+.0159_e x" {
			all(s+string(c), more-1)
		}
	}
	all("", 5)
}

// P1.2: there and back.
func TestThereAndBack(t *testing.T) {
	for _, n := range tenths() {
		if m, e := degree.Tenths(degree.Float(n)); m != n || e != api.OK {
			t.Errorf("%d has its Float's tenths: %d %d", n, m, e)
		}
		if m, e := degree.Of(math.Float64bits(degree.Float(n))); m != n || e != api.OK {
			t.Errorf("%d has its Float's bits' tenths: %d %d", n, m, e)
		}
		if m, e := degree.Parse(degree.Text(n)); m != n || e != api.OK {
			t.Errorf("%d is parsed from its text: %d %d", n, m, e)
		}
	}
}

// P1.3: of two float64s of which the one is not above the other one, so are the tenths.
func TestOrder(t *testing.T) {
	last := -api.Top
	for _, x := range floats() {
		n, e := degree.Tenths(x)
		if n < last || n > api.Top || e != api.OK {
			t.Errorf("Tenths(%g): %d %d behind %d", x, n, e, last)
		}
		last = n
	}
}

func must(t *testing.T, x float64) int {
	t.Helper()
	n, e := degree.Tenths(x)
	if e != api.OK {
		t.Fatalf("Tenths(%g): %d", x, e)
	}
	return n
}

// P1.3: less than a tenth above, but at -Top, and never below, but at Top.
func TestLessThanATenthAbove(t *testing.T) {
	for _, x := range floats() {
		n, ten := must(t, x), tenfold(x)
		if n != api.Top && float64(n) < ten {
			t.Errorf("%g: %d is below its tenfold %g", x, n, ten)
		}
		if n != -api.Top && ten <= float64(n-1) {
			t.Errorf("%g: %d is a tenth above its tenfold %g", x, n, ten)
		}
	}
}

// P1, P2: each call ends, at whatever it is given, and answers the same again.
func TestAgain(t *testing.T) {
	type answer struct {
		n int
		e api.Errno
		x float64
		s string
	}
	ask := func() (l []answer) {
		for _, bits := range numbers(5000) {
			n, e := degree.Of(bits)
			m, f := degree.Tenths(math.Float64frombits(bits))
			raw := make([]byte, bits%20)
			for i := range raw {
				raw[i] = byte(bits >> (i % 8 * 8))
			}
			k, g := degree.Parse(string(raw))
			l = append(l, answer{n: n, e: e}, answer{n: m, e: f}, answer{n: k, e: g}, answer{x: degree.Float(int(bits)), s: degree.Text(int(bits))})
		}
		return l
	}
	if !slices.Equal(ask(), ask()) {
		t.Error("asked again, another answer")
	}
}
