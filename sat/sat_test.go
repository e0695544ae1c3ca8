package sat_test

import (
	"math"
	"math/big"
	"slices"
	"testing"

	"hoarfrost/api"
	"hoarfrost/sat"
)

// root is the number whose square is the most.
const root = 1 << 31

// edges are the numbers that the chapter names, and those beside them, rising.
func edges() []int {
	l := []int{math.MinInt, math.MinInt + 1, math.MaxInt - 1, math.MaxInt, api.Most / 3, api.Most/3 + 1, api.Most / 5, api.Most/5 + 1}
	for _, n := range []int{0, 10, 100, root, api.Most / 2, api.Most, -api.Most} {
		l = append(l, n-2, n-1, n, n+1, n+2)
	}
	slices.Sort(l)
	return slices.Compact(l)
}

// spread are n numbers of all sizes, with both signs, the same in each run.
func spread(n int) []int {
	l, x := make([]int, n), uint64(5)
	for i := range l {
		x = x*6364136223846793005 + 1442695040888963407
		l[i] = int(x^x>>31) >> (i % 63)
	}
	return l
}

// numbers are the edges, all powers of two, and of ten, with those beside them, and some of all sizes.
func numbers() []int {
	l := append(edges(), spread(126)...)
	for i := range 63 {
		l = append(l, 1<<i-1, 1<<i, 1<<i+1, -1<<i)
	}
	for ten := 10; ten <= api.Most/10; ten *= 10 {
		l = append(l, ten-1, ten, ten+1)
	}
	slices.Sort(l)
	return slices.Compact(l)
}

// fitted is a number, fitted, without an end to what is reckoned from it.
func fitted(n int) *big.Int {
	return fit(big.NewInt(int64(n)))
}

// fit is a number of any size, fitted.
func fit(n *big.Int) *big.Int {
	if n.Sign() < 0 {
		return new(big.Int)
	}
	if most := new(big.Int).Lsh(big.NewInt(1), 62); n.Cmp(most) > 0 {
		return most
	}
	return n
}

// sum is what the words make of numbers that are added.
func sum(l ...int) int {
	all := new(big.Int)
	for _, n := range l {
		all.Add(all, fitted(n))
	}
	return int(fit(all).Int64())
}

// product is what the words make of two numbers that are multiplied.
func product(a, b int) int {
	return int(fit(new(big.Int).Mul(fitted(a), fitted(b))).Int64())
}

// rest is what the words make of a number from which another one is taken away.
func rest(a, b int) int {
	return int(fit(new(big.Int).Sub(fitted(a), fitted(b))).Int64())
}

func wantFit(t *testing.T, n, want int) {
	t.Helper()
	if got := sat.Fit(n); got != want {
		t.Errorf("Fit(%d): %d, not %d", n, got, want)
	}
}

func wantAdd(t *testing.T, want int, l ...int) {
	t.Helper()
	if got := sat.Add(l...); got != want {
		t.Errorf("Add(%d numbers, %d first): %d, not %d", len(l), l[:min(len(l), 4)], got, want)
	}
}

func wantMul(t *testing.T, a, b, want int) {
	t.Helper()
	if got := sat.Mul(a, b); got != want {
		t.Errorf("Mul(%d, %d): %d, not %d", a, b, got, want)
	}
}

func wantLess(t *testing.T, a, b, want int) {
	t.Helper()
	if got := sat.Less(a, b); got != want {
		t.Errorf("Less(%d, %d): %d, not %d", a, b, got, want)
	}
}

// P2.1, S1: the most is that of the words.
func TestTheMost(t *testing.T) {
	wantFit(t, math.MaxInt, 4611686018427387904)
}

// P2.1, S1: what Fit makes of the edges, and of all else.
func TestFit(t *testing.T) {
	for n, want := range map[int]int{
		math.MinInt: 0, math.MinInt + 1: 0, -api.Most - 1: 0, -api.Most: 0, -2: 0, -1: 0, 0: 0, 1: 1, 2: 2,
		api.Most - 2: api.Most - 2, api.Most - 1: api.Most - 1, api.Most: api.Most,
		api.Most + 1: api.Most, api.Most + 2: api.Most, math.MaxInt - 1: api.Most, math.MaxInt: api.Most,
	} {
		wantFit(t, n, want)
	}
	for _, n := range numbers() {
		wantFit(t, n, int(fitted(n).Int64()))
	}
}

// P2.1, S1: sums at the edges, one by one.
func TestAdd(t *testing.T) {
	wantAdd(t, 0)
	wantAdd(t, 0, []int{}...)
	wantAdd(t, 0, []int(nil)...)
	for _, c := range []struct {
		l    []int
		want int
	}{
		{[]int{0}, 0}, {[]int{1}, 1}, {[]int{-1}, 0}, {[]int{math.MinInt}, 0}, {[]int{math.MaxInt}, api.Most},
		{[]int{2, 3}, 5}, {[]int{2, 3, 5, 7}, 17}, {[]int{0, 0, 0}, 0},
		// Each one is fitted for itself, so that what is below 0 takes nothing away.
		{[]int{5, -5}, 5}, {[]int{-5, 5}, 5}, {[]int{math.MinInt, 7}, 7}, {[]int{-1, -1}, 0}, {[]int{math.MinInt, math.MinInt}, 0},
		{[]int{api.Most, -1}, api.Most}, {[]int{math.MaxInt, math.MinInt}, api.Most},
		{[]int{api.Most - 1, 1}, api.Most}, {[]int{1, api.Most - 1}, api.Most}, {[]int{api.Most - 2, 1}, api.Most - 1},
		{[]int{api.Most - 1, 2}, api.Most}, {[]int{api.Most, 0}, api.Most}, {[]int{api.Most, 1}, api.Most}, {[]int{0, api.Most}, api.Most},
		{[]int{api.Most / 2, api.Most / 2}, api.Most}, {[]int{api.Most / 2, api.Most/2 - 1}, api.Most - 1}, {[]int{api.Most / 2, api.Most/2 + 1}, api.Most},
		// These would wrap round, to what is below 0, to 0, and to what is above.
		{[]int{api.Most, api.Most}, api.Most}, {[]int{api.Most, api.Most, 5}, api.Most}, {[]int{math.MaxInt, math.MaxInt}, api.Most}, {[]int{math.MaxInt, 1}, api.Most},
		{[]int{api.Most, api.Most, api.Most, api.Most}, api.Most}, {[]int{api.Most, api.Most, api.Most, api.Most, 1}, api.Most},
		{[]int{api.Most / 2, api.Most / 2, api.Most / 2, api.Most - 1, -3, 9}, api.Most},
	} {
		wantAdd(t, c.want, c.l...)
	}
}

// P2.1, S1: two, and three, against the words, reckoned exactly.
func TestAddIsTheWords(t *testing.T) {
	for _, a := range numbers() {
		wantAdd(t, sum(a), a)
		for _, b := range numbers() {
			wantAdd(t, sum(a, b), a, b)
		}
	}
	for _, a := range edges() {
		for _, b := range edges() {
			for _, c := range edges() {
				wantAdd(t, sum(a, b, c), a, b, c)
			}
		}
	}
}

// P2.1, S1: as many numbers as one likes, that meet the most, or don't, at the last one.
func TestAddOfMany(t *testing.T) {
	const many = 1 << 16
	each := slices.Repeat([]int{api.Most / many}, many)
	wantAdd(t, api.Most, each...)
	wantAdd(t, api.Most-api.Most/many, each[1:]...)
	each[many-1]--
	wantAdd(t, api.Most-1, each...)
	each[0] -= many
	wantAdd(t, api.Most-1-many, each...)
	wantAdd(t, 1<<20, slices.Repeat([]int{1}, 1<<20)...)
	wantAdd(t, 1<<20, slices.Repeat([]int{-1, 1, math.MinInt}, 1<<20)...)
	wantAdd(t, api.Most, slices.Repeat([]int{math.MaxInt}, 1<<20)...)
	wantAdd(t, 0, slices.Repeat([]int{math.MinInt}, 1<<20)...)
	for n := range 200 {
		l := spread(n)
		wantAdd(t, sum(l...), l...)
	}
}

// P2.1, S1: products at the edges, one by one.
func TestMul(t *testing.T) {
	for _, c := range []struct{ a, b, want int }{
		{0, 0, 0}, {0, 1, 0}, {1, 1, 1}, {2, 3, 6}, {7, 11, 77}, {10, 10, 100}, {12345, 6789, 83810205},
		{-1, -1, 0}, {-1, 5, 0}, {math.MinInt, math.MinInt, 0}, {math.MinInt, math.MaxInt, 0}, {-api.Most, api.Most, 0},
		{0, api.Most, 0}, {0, math.MaxInt, 0}, {1, api.Most - 1, api.Most - 1}, {1, api.Most, api.Most}, {1, api.Most + 1, api.Most}, {1, math.MaxInt, api.Most},
		{2, api.Most, api.Most}, {api.Most, api.Most, api.Most}, {math.MaxInt, math.MaxInt, api.Most},
		// Just so, just not, and just above.
		{root, root, api.Most}, {root - 1, root + 1, api.Most - 1}, {root, root - 1, api.Most - root}, {root, root + 1, api.Most}, {root + 1, root + 1, api.Most},
		{2, api.Most / 2, api.Most}, {2, api.Most/2 - 1, api.Most - 2}, {2, api.Most/2 + 1, api.Most},
		{4, api.Most / 4, api.Most}, {4, api.Most/4 - 1, api.Most - 4}, {4, api.Most/4 + 1, api.Most},
		{3, (api.Most - 1) / 3, api.Most - 1}, {3, (api.Most-1)/3 + 1, api.Most}, {5, (api.Most + 1) / 5, api.Most}, {5, (api.Most+1)/5 - 1, api.Most - 4},
		// These would wrap round, to 0, to what is above it, and below it.
		{1 << 32, 1 << 32, api.Most}, {1 << 33, 1 << 31, api.Most}, {8, 1<<61 + 1, api.Most}, {4, api.Most - 1, api.Most}, {2, api.Most - 1, api.Most}, {4, api.Most/2 + 1, api.Most}, {3037000500, 3037000500, api.Most},
	} {
		wantMul(t, c.a, c.b, c.want)
		wantMul(t, c.b, c.a, c.want)
	}
}

// P2.1, S1: products against the words, reckoned exactly.
func TestMulIsTheWords(t *testing.T) {
	for _, a := range numbers() {
		for _, b := range numbers() {
			wantMul(t, a, b, product(a, b))
		}
	}
}

// P2.1, S1: of each number, what it may be multiplied by up to the most, and by one more, and one less.
func TestMulAtTheMost(t *testing.T) {
	for _, a := range numbers() {
		if a < 1 || a > api.Most {
			continue
		}
		most := api.Most / a
		wantMul(t, a, most, a*most)
		wantMul(t, a, most-1, a*(most-1))
		wantMul(t, a, most+1, api.Most)
	}
}

// P2.1, S1: what is taken away at the edges, one by one.
func TestLess(t *testing.T) {
	for _, c := range []struct{ a, b, want int }{
		{0, 0, 0}, {1, 0, 1}, {0, 1, 0}, {1, 1, 0}, {5, 3, 2}, {3, 5, 0},
		// Each one is fitted ahead of it: what is below 0 adds nothing, what is above the most takes no more away.
		{5, -3, 5}, {-3, 5, 0}, {-3, -5, 0}, {-5, -3, 0}, {0, math.MinInt, 0}, {1, math.MinInt, 1}, {math.MinInt, math.MaxInt, 0}, {math.MinInt, math.MinInt, 0},
		{api.Most, 0, api.Most}, {api.Most, 1, api.Most - 1}, {api.Most, api.Most - 1, 1}, {api.Most, api.Most, 0}, {api.Most - 1, api.Most, 0}, {0, api.Most, 0},
		{api.Most + 1, 1, api.Most - 1}, {math.MaxInt, 1, api.Most - 1}, {math.MaxInt, api.Most, 0}, {math.MaxInt, math.MaxInt, 0}, {api.Most, math.MaxInt, 0},
		{math.MaxInt, math.MinInt, api.Most}, {api.Most - 1, math.MinInt, api.Most - 1}, {math.MaxInt, api.Most - 1, 1},
	} {
		wantLess(t, c.a, c.b, c.want)
	}
	for _, a := range numbers() {
		for _, b := range numbers() {
			wantLess(t, a, b, rest(a, b))
		}
	}
}

// P2.1, S1: the figures of a number, fitted.
func TestText(t *testing.T) {
	for n, want := range map[int]string{
		math.MinInt: "0", -10: "0", -1: "0", 0: "0", 1: "1", 9: "9", 10: "10", 11: "11", 100: "100", 1000000: "1000000",
		api.Most - 1: "4611686018427387903", api.Most: "4611686018427387904", api.Most + 1: "4611686018427387904", math.MaxInt: "4611686018427387904",
	} {
		if s := sat.Text(n); s != want {
			t.Errorf("Text(%d): %q, not %q", n, s, want)
		}
	}
	for _, n := range numbers() {
		if s, want := sat.Text(n), fitted(n).String(); s != want {
			t.Errorf("Text(%d): %q, not %q", n, s, want)
		}
	}
}

// P2.2: two, in both orders.
func TestTwoInAnyOrder(t *testing.T) {
	for _, a := range numbers() {
		for _, b := range numbers() {
			if x, y := sat.Add(a, b), sat.Add(b, a); x != y {
				t.Errorf("%d + %d: %d, or %d", a, b, x, y)
			}
			if x, y := sat.Mul(a, b), sat.Mul(b, a); x != y {
				t.Errorf("%d * %d: %d, or %d", a, b, x, y)
			}
		}
	}
}

// P2.2: three, whichever two of them are the first.
func TestThreeWhicheverIsFirst(t *testing.T) {
	l := append(edges(), spread(30)...)
	l = append(l, 3, 1<<20, 1<<21, 1<<40, 1<<41, 1<<22+1)
	for _, a := range l {
		for _, b := range l {
			for _, c := range l {
				if x, y, z := sat.Add(sat.Add(a, b), c), sat.Add(a, sat.Add(b, c)), sat.Add(a, b, c); x != y || x != z {
					t.Errorf("%d + %d + %d: %d, %d, or %d", a, b, c, x, y, z)
				}
				if x, y := sat.Mul(sat.Mul(a, b), c), sat.Mul(a, sat.Mul(b, c)); x != y {
					t.Errorf("%d * %d * %d: %d, or %d", a, b, c, x, y)
				}
			}
		}
	}
}

// all multiplies numbers, one behind the other.
func all(l []int) int {
	n := 1
	for _, m := range l {
		n = sat.Mul(n, m)
	}
	return n
}

// P2.2: many, turned, the other way round, sorted, and parted anywhere.
func TestManyInAnyOrder(t *testing.T) {
	for n := range 60 {
		l := spread(3 * n)[2*n:]
		added, multiplied := sat.Add(l...), all(l)
		back := slices.Clone(l)
		slices.Reverse(back)
		for i := range l {
			turned := slices.Concat(l[i:], l[:i])
			for _, other := range [][]int{turned, back, slices.Sorted(slices.Values(l))} {
				if x := sat.Add(other...); x != added {
					t.Errorf("the sum of %d: %d, or %d", other, x, added)
				}
				if x := all(other); x != multiplied {
					t.Errorf("the product of %d: %d, or %d", other, x, multiplied)
				}
			}
			if x := sat.Add(sat.Add(l[:i]...), sat.Add(l[i:]...)); x != added {
				t.Errorf("the sum of %d, parted at %d: %d, not %d", l, i, x, added)
			}
			if x := sat.Mul(all(l[:i]), all(l[i:])); x != multiplied {
				t.Errorf("the product of %d, parted at %d: %d, not %d", l, i, x, multiplied)
			}
		}
	}
}

// P2.2: a sum is not below any of its numbers, fitted.
func TestSumIsNotBelow(t *testing.T) {
	l := numbers()
	for n := range l {
		some := l[n:min(len(l), 2*n)]
		if len(some) > 0 {
			some = append(slices.Clone(some), l[:n%5]...)
		}
		whole := sat.Add(some...)
		for _, a := range some {
			if whole < sat.Fit(a) {
				t.Errorf("the sum of %d, %d, is below %d", some, whole, a)
			}
		}
		for _, b := range l {
			if x := sat.Add(l[n], b); x < sat.Fit(l[n]) || x < sat.Fit(b) {
				t.Errorf("%d + %d: %d", l[n], b, x)
			}
		}
	}
}

// P2.2: what was added, if the most wasn't met, is taken away again.
func TestTakenAwayAgain(t *testing.T) {
	met, taken := 0, 0
	for _, a := range numbers() {
		for _, b := range numbers() {
			x := sat.Add(a, b)
			if x == api.Most {
				met++
				continue
			}
			taken++
			if y := sat.Less(x, b); y != sat.Fit(a) {
				t.Errorf("%d + %d - %d: %d", a, b, b, y)
			}
		}
	}
	if met == 0 || taken == 0 {
		t.Errorf("the most was met %d times, and not met %d times", met, taken)
	}
}

// P1, P2: each call ends, at whatever it is given, and answers the same again, whatever was asked between.
func TestAgain(t *testing.T) {
	type answer struct {
		fit, add, mul, less int
		text                string
	}
	ask := func(l []int) map[int]answer {
		m := map[int]answer{}
		for i, n := range l {
			other := n>>7 ^ 99
			m[n] = answer{sat.Fit(n), sat.Add(n, other, n), sat.Mul(n, other), sat.Less(n, other), sat.Text(n)}
			sat.Add(l[i:]...)
		}
		return m
	}
	l := numbers()
	first := ask(l)
	slices.Reverse(l)
	for n, a := range ask(l) {
		if first[n] != a {
			t.Errorf("of %d: %v, asked again %v", n, first[n], a)
		}
	}
}

// Rule 4: numbers that are handed in as a list stay as they were, those behind its length too, and these don't count.
func TestListIsLeftAlone(t *testing.T) {
	memory := []int{-7, 3, math.MaxInt, 4, math.MinInt, 5, 6}
	was := slices.Clone(memory)
	wantAdd(t, 3, memory[:2]...)
	wantAdd(t, 9, memory[3:6]...)
	wantAdd(t, api.Most, memory[:3]...)
	if !slices.Equal(memory, was) {
		t.Errorf("%d were %d", memory, was)
	}
}
