package excess_test

import (
	"cmp"
	"fmt"
	"math"
	"slices"
	"testing"

	"hoarfrost/api"
	"hoarfrost/excess"
	"hoarfrost/series"
)

// The ends of what a reading, a series and a limit may have, and of the minutes that have an excess.
const (
	top        = 1 << 40
	lastMinute = 1<<20 - 1
	lastSeq    = 65535
	end        = 1 << 20
)

func reading(minute, seq, tenths int) api.Reading {
	return api.Reading{Minute: minute, Seq: seq, Tenths: tenths}
}

// The numbers that a limit, and a WORST, may be, and those that they may not be; some would be, if they wrapped round.
func tenths() []int { return []int{-top, -top + 1, -181, -1, 0, 1, 45, 100, top - 1, top} }

func noTenths() []int {
	return []int{-top - 1, top + 1, -2 * top, 2 * top, -1 << 62, 1 << 62, math.MinInt, math.MinInt + 1, math.MaxInt}
}

// Likewise those of a GAP.
func gaps() []int { return []int{0, 1, 5, 65536, lastMinute - 1, lastMinute} }

func noGaps() []int {
	return []int{-1, end, -2, end + 1, -end, 1<<32 + 1, -1<<32 + 1, math.MinInt, math.MinInt + 1, math.MaxInt}
}

// Minutes at the ends of those that have an excess, and beyond all.
func ends() []int {
	return []int{math.MinInt, math.MinInt + 1, -1 << 40, -end, -2, -1, 0, 1, 2, lastMinute - 1, lastMinute, end, end + 1, 1<<21 - 1, 1 << 21, 1<<32 + 1, 1 << 40, math.MaxInt - 1, math.MaxInt}
}

// dice tell numbers that look like any, the same in each run.
type dice uint64

func (d *dice) below(n int) int {
	*d = *d*6364136223846793005 + 1442695040888963407
	x := uint64(*d^*d>>31) * 0x9e3779b97f4a7c15
	return int((x >> 1) % uint64(n))
}

// few are readings close to one another, some of the same Minute and Seq.
func (d *dice) few(n int) []api.Reading {
	l := []api.Reading{}
	for range n {
		l = append(l, reading(d.below(41), d.below(3), d.below(200)-50))
	}
	return l
}

// far are readings of all minutes, seqs and tenths.
func (d *dice) far(n int) []api.Reading {
	l := []api.Reading{}
	for range n {
		l = append(l, reading(d.below(end), d.below(lastSeq+1), d.below(2*top+1)-top))
	}
	return l
}

// shuffled are the same readings in another order.
func (d *dice) shuffled(l []api.Reading) []api.Reading {
	l = slices.Clone(l)
	for i := range l {
		j := d.below(i + 1)
		l[i], l[j] = l[j], l[i]
	}
	return l
}

// words is a series with a limit, by the words.
type words struct {
	worst, gap, limit int
	readings          []api.Reading // by Minute, and Seq, rising
}

func (w *words) put(l ...api.Reading) {
	w.readings = slices.Concat(w.readings, l)
	// Of one Minute and Seq the warmest one comes first, and stays.
	slices.SortFunc(w.readings, func(a, b api.Reading) int {
		return cmp.Or(cmp.Compare(a.Minute, b.Minute), cmp.Compare(a.Seq, b.Seq), cmp.Compare(b.Tenths, a.Tenths))
	})
	w.readings = slices.CompactFunc(w.readings, func(a, b api.Reading) bool { return a.Minute == b.Minute && a.Seq == b.Seq })
}

// table has, of each minute, the sum of all that are ahead of it, added up one by one.
func (w *words) table() []int {
	l, came := make([]int, end+1), 0
	for minute := range end {
		for came < len(w.readings) && w.readings[came].Minute <= minute {
			came++
		}
		air := w.worst
		if came > 0 && minute-w.readings[came-1].Minute <= w.gap {
			air = w.readings[came-1].Tenths
		}
		l[minute+1] = l[minute] + max(0, air-w.limit)
	}
	return l
}

// between is the sum from a minute up to another one, by such a table.
func between(table []int, from, to int) int {
	from, to = max(from, 0), min(to, end)
	if from >= to {
		return 0
	}
	return table[to] - table[from]
}

// asked are minutes that tell sums apart: the ends, and about where the air may become another one.
func (w *words) asked() []int {
	l := ends()
	for _, r := range w.readings {
		l = append(l, r.Minute-1, r.Minute, r.Minute+1, r.Minute+w.gap, r.Minute+w.gap+1, r.Minute+w.gap+2)
	}
	slices.Sort(l)
	return slices.Compact(l)
}

// summer is what tells a sum: an index, or a series over a limit.
type summer func(from, to int) int

// over tells a series' sums over a limit.
func over(s *series.Series, limit int) summer {
	return func(from, to int) int { return excess.Sum(s, limit, from, to) }
}

func wantSum(t *testing.T, sum summer, from, to, want int) {
	t.Helper()
	if got := sum(from, to); got != want {
		t.Fatalf("Sum from %d up to %d: %d, not %d", from, to, got, want)
	}
}

// wantWords wants sums between all minutes that are asked to be what they are by the words.
func wantWords(t *testing.T, w *words, asked []int, sums ...summer) {
	t.Helper()
	wantTable(t, w.table(), asked, sums...)
}

// wantTable is wantWords, of a table that is there already.
func wantTable(t *testing.T, table, asked []int, sums ...summer) {
	t.Helper()
	for _, sum := range sums {
		for _, from := range asked {
			for _, to := range asked {
				wantSum(t, sum, from, to, between(table, from, to))
			}
		}
	}
}

// made is an index that may be, in which readings that may be were put.
func made(t *testing.T, worst, gap, limit int, l ...api.Reading) *excess.Index {
	t.Helper()
	x, e := excess.New(worst, gap, limit)
	if e != api.OK || x == nil {
		t.Fatalf("New(%d, %d, %d): %v, error %d", worst, gap, limit, x, e)
	}
	for _, r := range l {
		if _, e := x.Put(r); e != api.OK {
			t.Fatalf("Put(%v): error %d", r, e)
		}
	}
	return x
}

// aired is a series that may be, in which readings that may be were put.
func aired(t *testing.T, worst, gap int, l ...api.Reading) *series.Series {
	t.Helper()
	s, e := series.New(worst, gap)
	if e != api.OK {
		t.Fatalf("series.New(%d, %d): error %d", worst, gap, e)
	}
	for _, r := range l {
		if _, e := s.Put(r); e != api.OK {
			t.Fatalf("series' Put(%v): error %d", r, e)
		}
	}
	return s
}

// both are the sums of a series over a limit, and of an index with the same.
func both(t *testing.T, worst, gap, limit int, l ...api.Reading) []summer {
	t.Helper()
	return []summer{over(aired(t, worst, gap, l...), limit), made(t, worst, gap, limit, l...).Sum}
}

func wantPut(t *testing.T, x *excess.Index, r api.Reading, want bool) {
	t.Helper()
	if got, e := x.Put(r); e != api.OK || got != want {
		t.Fatalf("Put(%v): %t, error %d, not %t", r, got, e, want)
	}
}

// wantAir wants a series to have just these readings, and to be of that worst and gap.
func wantAir(t *testing.T, s *series.Series, worst, gap int, l ...api.Reading) {
	t.Helper()
	other := aired(t, worst, gap, l...)
	if s == nil || !slices.Equal(s.All(), other.All()) {
		t.Fatalf("a series with %v, not %v", s.All(), other.All())
	}
	for _, minute := range (&words{gap: gap, readings: l}).asked() {
		if s.At(minute) != other.At(minute) || s.Next(minute) != other.Next(minute) {
			t.Fatalf("at %d: %d, next %d, not %d, next %d", minute, s.At(minute), s.Next(minute), other.At(minute), other.Next(minute))
		}
	}
}

// P7.1, X1, X2: the document's example, and parts of it.
func TestExample(t *testing.T) {
	for _, sum := range both(t, 100, 5, 40, reading(2, 0, 45)) {
		for _, c := range []struct{ from, to, want int }{
			{0, 10, 270}, {0, 1, 60}, {0, 2, 120}, {1, 2, 60}, {1, 3, 65}, {2, 3, 5}, {2, 8, 30}, {7, 8, 5}, {7, 9, 65}, {8, 9, 60}, {8, 10, 120}, {3, 3, 0}, {8, 2, 0},
		} {
			wantSum(t, sum, c.from, c.to, c.want)
		}
	}
}

// P7.1, X2: an index there can be, and none else.
func TestNew(t *testing.T) {
	right := func(worst, gap, limit int) bool {
		return slices.Contains(tenths(), worst) && slices.Contains(gaps(), gap) && slices.Contains(tenths(), limit)
	}
	for _, worst := range slices.Concat(tenths(), noTenths()) {
		for _, gap := range slices.Concat(gaps(), noGaps()) {
			for _, limit := range slices.Concat(tenths(), noTenths()) {
				if right(worst, gap, limit) {
					x := made(t, worst, gap, limit)
					wantAir(t, x.Series(), worst, gap)
					wantSum(t, x.Sum, 0, 3, 3*max(0, worst-limit))
				} else if x, e := excess.New(worst, gap, limit); x != nil || e != api.ErrArg {
					t.Errorf("New(%d, %d, %d): %v, error %d", worst, gap, limit, x, e)
				}
			}
		}
	}
}

// P7.1, X2, rule 8: a nil index.
func TestNilIndex(t *testing.T) {
	var x *excess.Index
	for _, n := range slices.Concat(ends(), tenths(), noTenths()) {
		for _, r := range []api.Reading{reading(n, 0, 0), reading(0, n, 0), reading(0, 0, n)} {
			if changed, e := x.Put(r); changed || e != api.ErrArg {
				t.Errorf("Put(%v) of nil: %t, error %d", r, changed, e)
			}
		}
		for _, to := range ends() {
			wantSum(t, x.Sum, n, to, 0)
		}
	}
	if s := x.Series(); s != nil {
		t.Errorf("Series of nil: %v", s)
	}
}

// P7.1, X1: a nil series, over all limits.
func TestNilSeries(t *testing.T) {
	for _, limit := range slices.Concat(tenths(), noTenths()) {
		for _, from := range ends() {
			for _, to := range ends() {
				wantSum(t, over(nil, limit), from, to, 0)
			}
		}
	}
}

// P7.1, X1: over a limit that is a tenth's least, its greatest, and any between; nothing over one less, one more, and whatever is none.
func TestLimits(t *testing.T) {
	l := []api.Reading{reading(3, 0, -top), reading(5, 0, top), reading(10, 0, 45), reading(lastMinute, 0, 3)}
	for _, worst := range []int{-top, 100, top} {
		s := aired(t, worst, 2, l...)
		for _, limit := range tenths() {
			w := &words{worst, 2, limit, l}
			wantWords(t, w, w.asked(), over(s, limit), made(t, worst, 2, limit, l...).Sum)
		}
		for _, limit := range noTenths() {
			for _, from := range ends() {
				for _, to := range ends() {
					wantSum(t, over(s, limit), from, to, 0)
				}
			}
		}
	}
}

// P7.1, X1: air that is below the limit, at it, and above it; what is below takes nothing away.
func TestAboutTheLimit(t *testing.T) {
	for _, limit := range []int{-top + 2, -100, -1, 0, 1, 40, top - 2} {
		l := []api.Reading{reading(0, 0, limit-1), reading(1, 0, limit), reading(2, 0, limit+1), reading(3, 0, limit+2), reading(4, 0, limit-2), reading(5, 0, limit+1)}
		for _, sum := range both(t, limit, 0, limit, l...) {
			for minute, want := range []int{0, 0, 1, 2, 0, 1, 0, 0} {
				wantSum(t, sum, minute, minute+1, want)
			}
			wantSum(t, sum, 0, 6, 4)
			wantSum(t, sum, 0, 3, 1)
			wantSum(t, sum, 3, 5, 2)
			wantSum(t, sum, 6, end, 0)
		}
	}
}

// P7.1, X1, X2: minutes below 0, and from 2^20 on, have no excess; up to the same minute, or an earlier one, there are none.
func TestEndsOfMinutes(t *testing.T) {
	for _, sum := range both(t, 43, 0, 40, reading(0, 0, 45), reading(lastMinute, 0, 47)) {
		all := 5 + 3*(end-2) + 7
		for _, c := range []struct{ from, to, want int }{
			{0, 0, 0}, {0, 1, 5}, {-1, 0, 0}, {-1, 1, 5}, {-2, -1, 0}, {math.MinInt, -1, 0}, {math.MinInt, 0, 0}, {math.MinInt, 1, 5}, {1, 0, 0}, {1, -1, 0}, {1, 2, 3},
			{lastMinute - 1, lastMinute, 3}, {lastMinute, lastMinute, 0}, {lastMinute, end, 7}, {lastMinute, end + 1, 7}, {lastMinute, math.MaxInt, 7},
			{end, end, 0}, {end, end + 1, 0}, {end, math.MaxInt, 0}, {end + 1, math.MaxInt, 0}, {end, 0, 0}, {end + 1, lastMinute, 0}, {1 << 40, 1<<40 + 9, 0},
			{0, lastMinute, all - 7}, {0, end, all}, {0, end + 1, all}, {-1, end, all}, {-1, end + 1, all}, {1, end, all - 5},
			{math.MinInt, math.MaxInt, all}, {math.MinInt, math.MinInt, 0}, {math.MaxInt, math.MaxInt, 0}, {math.MaxInt, math.MinInt, 0}, {math.MaxInt - 1, math.MaxInt, 0}, {math.MinInt, math.MinInt + 1, 0},
		} {
			wantSum(t, sum, c.from, c.to, c.want)
		}
	}
}

// P7.1, X1, X2: between all ends, without readings.
func TestWithoutReadings(t *testing.T) {
	for _, worst := range tenths() {
		for _, gap := range []int{0, 5, lastMinute} {
			wantWords(t, &words{worst, gap, 45, nil}, ends(), both(t, worst, gap, 45)...)
		}
	}
}

// P7.1, X1, X2: the warmest series over the least limit has, in all minutes, a half of the most, whether it is silent or not.
func TestWarmest(t *testing.T) {
	whole := []api.Reading{}
	for minute := range 1 << 10 {
		whole = append(whole, reading(minute<<10, 0, top))
	}
	for _, l := range [][]api.Reading{nil, whole} {
		for _, sum := range both(t, top, 512, -top, l...) {
			wantSum(t, sum, 0, end, 1<<61)
			wantSum(t, sum, math.MinInt, math.MaxInt, 1<<61)
			wantSum(t, sum, 0, 1, 1<<41)
			wantSum(t, sum, lastMinute, end, 1<<41)
			wantSum(t, sum, 1, end, 1<<61-1<<41)
			wantSum(t, sum, 0, lastMinute, 1<<61-1<<41)
			wantSum(t, sum, 1<<19, end, 1<<60)
		}
	}
	coldest := both(t, -top, 512, -top, reading(7, 0, -top))
	wantWords(t, &words{-top, 512, -top, nil}, ends(), coldest...)
}

// P7.1, X1, X2: a GAP of 0, and the greatest one, with readings at both ends of the minutes.
func TestEndsOfGap(t *testing.T) {
	for _, gap := range []int{0, 1, lastMinute - 1, lastMinute} {
		for _, l := range [][]api.Reading{
			{reading(0, 0, 45)},
			{reading(lastMinute, lastSeq, 47)},
			{reading(0, 0, 45), reading(lastMinute, lastSeq, 47)},
			{reading(0, 0, 45), reading(1, 0, 30), reading(2, 0, 42), reading(1<<19, 0, 90), reading(lastMinute, 0, 47)},
		} {
			w := &words{100, gap, 40, l}
			wantWords(t, w, w.asked(), both(t, 100, gap, 40, l...)...)
		}
	}
	for _, sum := range both(t, 100, lastMinute, 40, reading(0, 0, 41)) {
		wantSum(t, sum, 0, end, end)
	}
	for _, sum := range both(t, 100, lastMinute-1, 40, reading(0, 0, 41)) {
		wantSum(t, sum, 0, end, lastMinute+60)
	}
}

// P7.1, P7.3: the sum between any two minutes is what the air of each minute, asked one by one, adds up to.
func TestMinuteByMinute(t *testing.T) {
	var d dice
	for number := range 60 {
		l, gap, limit := d.few(1+number%20), number%9, d.below(150)-40
		s := aired(t, 100, gap, l...)
		sums := both(t, 100, gap, limit, l...)
		for from := -2; from < 60; from++ {
			want := 0
			for to := from; to < 60; to++ {
				for _, sum := range sums {
					wantSum(t, sum, from, to, want)
				}
				if to >= 0 {
					want += max(0, s.At(to)-limit)
				}
			}
		}
	}
}

// P7.1, P7.3: readings of all minutes, seqs and tenths.
func TestFar(t *testing.T) {
	var d dice
	for number := range 24 {
		gap := gaps()[number%len(gaps())]
		w := &words{d.below(2*top) - top, gap, d.below(2*top) - top, nil}
		l := d.far(15)
		w.put(l...)
		wantWords(t, w, w.asked(), both(t, w.worst, gap, w.limit, l...)...)
	}
}

// P7.3: sums that are asked behind each reading that is put.
func TestStepByStep(t *testing.T) {
	var d dice
	for number := range 8 {
		for _, l := range [][]api.Reading{d.few(20), d.far(10)} {
			w := &words{worst: 100, gap: []int{0, 3, 50, lastMinute}[number%4], limit: 20}
			x, s := made(t, w.worst, w.gap, w.limit), aired(t, w.worst, w.gap)
			for _, r := range l {
				changed, _ := s.Put(r)
				wantPut(t, x, r, changed)
				w.put(r)
				wantWords(t, w, []int{-1, 0, r.Minute - 1, r.Minute, r.Minute + 1, r.Minute + w.gap + 1, end}, x.Sum, over(s, w.limit))
			}
			wantWords(t, w, w.asked(), x.Sum, over(s, w.limit), over(x.Series(), w.limit))
			wantAir(t, x.Series(), w.worst, w.gap, w.readings...)
		}
	}
}

// P7.3: behind all was added up, and behind just a part of it was, a reading comes: ahead of all, in the middle, behind all, at a place that is there, or one that changes nothing.
func TestPutBehindSums(t *testing.T) {
	there := []api.Reading{reading(10, 5, 45), reading(20, 5, 70), reading(22, 5, 30), reading(40, 5, 90)}
	for _, c := range []struct {
		r       api.Reading
		changed bool
	}{
		{reading(0, 0, 60), true}, {reading(0, 0, -60), true}, {reading(9, 9, 50), true}, {reading(3, 0, 41), true}, // ahead of all
		{reading(15, 0, 60), true}, {reading(15, 0, 10), true}, {reading(21, 0, 200), true}, {reading(30, 0, 60), true}, {reading(28, 0, 200), true}, // in the middle
		{reading(40, 6, 91), true}, {reading(41, 0, 0), true}, {reading(46, 0, 41), true}, {reading(47, 0, 50), true}, {reading(lastMinute, 0, 300), true}, // behind all
		{reading(20, 4, 500), true}, {reading(20, 6, 500), true}, {reading(20, 6, 0), true}, // of the same Minute, of which the greatest Seq counts
		{reading(10, 5, 46), true}, {reading(20, 5, 71), true}, {reading(22, 5, 500), true}, {reading(40, 5, 91), true}, // of the same Minute and Seq, warmer
		{reading(10, 5, 45), false}, {reading(20, 5, 69), false}, {reading(22, 5, -top), false}, {reading(40, 5, 90), false}, // nothing changes
	} {
		w := &words{worst: 100, gap: 6, limit: 40}
		w.put(there...)
		w.put(c.r)
		table := w.table()
		for _, asked := range [][]int{{}, {0}, {5}, {10}, {15}, {20}, {21}, {26}, {28}, {29}, {40}, {47}, {1000}, {end}, {end, 3}, {3, end}} {
			x := made(t, 100, 6, 40, there...)
			for _, to := range asked {
				x.Sum(0, to)
			}
			wantPut(t, x, c.r, c.changed)
			for _, to := range []int{end, 24} {
				wantSum(t, x.Sum, 2, to, between(table, 2, to))
			}
			if len(asked) == 2 {
				wantTable(t, table, w.asked(), x.Sum, over(x.Series(), 40))
			}
		}
	}
}

// P7.1, X2, rule 3: a reading that may not be is an error, and changes nothing, whatever was added up by then.
func TestWrongReadings(t *testing.T) {
	l := []api.Reading{reading(0, 0, 45), reading(9, 0, 50), reading(9, lastSeq, 60), reading(lastMinute, lastSeq, 70)}
	for _, asked := range []int{0, 9, end} {
		x, w := made(t, 100, 6, 40, l...), &words{100, 6, 40, l}
		x.Sum(0, asked)
		wrong := []api.Reading{reading(-1, -1, -top-1), reading(end, lastSeq+1, top+1)}
		for _, n := range noTenths() {
			wrong = append(wrong, reading(0, 0, n), reading(5, 0, n), reading(9, lastSeq, n), reading(lastMinute, lastSeq, n))
		}
		for _, n := range noGaps() { // which no Minute may be, either
			wrong = append(wrong, reading(n, 0, 500), reading(n, lastSeq, top))
		}
		for _, n := range []int{-1, lastSeq + 1, -lastSeq, 1<<32 + 1, math.MinInt, math.MaxInt} {
			wrong = append(wrong, reading(0, n, 500), reading(9, n, 500), reading(lastMinute, n, 500))
		}
		for _, r := range wrong {
			if changed, e := x.Put(r); changed || e != api.ErrArg {
				t.Errorf("Put(%v): %t, error %d", r, changed, e)
			}
			wantSum(t, x.Sum, 0, 12, 5*7+2*60+20*3)
		}
		wantWords(t, w, w.asked(), x.Sum)
		wantAir(t, x.Series(), 100, 6, l...)
	}
}

// P7.3: the same readings in any order, each as often as one likes, with other sums asked between, lead to the same sums.
func TestAnyOrder(t *testing.T) {
	var d dice
	for range 6 {
		for _, l := range [][]api.Reading{d.few(25), d.far(25), slices.Concat(d.few(10), d.far(10))} {
			w := &words{worst: 100, gap: 4, limit: 20}
			w.put(l...)
			table, asked := w.table(), w.asked()
			for range 6 {
				x := made(t, 100, 4, 20)
				for _, r := range d.shuffled(slices.Concat(l, l[d.below(len(l)):])) {
					x.Put(r)
					x.Sum(asked[d.below(len(asked))], asked[d.below(len(asked))])
				}
				for _, to := range asked {
					from := asked[d.below(len(asked))]
					wantSum(t, x.Sum, 0, to, between(table, 0, to))
					wantSum(t, x.Sum, from, to, between(table, from, to))
				}
				wantAir(t, x.Series(), 100, 4, w.readings...)
			}
		}
	}
}

// P7.3: a sum hangs not on which others were asked ahead of it.
func TestAskedAhead(t *testing.T) {
	var d dice
	for range 10 {
		l := d.few(20)
		w := &words{worst: 100, gap: 4, limit: 20}
		w.put(l...)
		table := w.table()
		for range 20 {
			x := made(t, 100, 4, 20, l...)
			for range 10 {
				from, to := d.below(60)-5, d.below(60)-5
				wantSum(t, x.Sum, from, to, between(table, from, to))
			}
		}
	}
}

// P7.2: a sum is that up to any minute between, and that from there on, added.
func TestAdded(t *testing.T) {
	var d dice
	for _, l := range [][]api.Reading{nil, d.few(12), d.far(6)} {
		w := &words{worst: 100, gap: 4, limit: 20, readings: l}
		asked := w.asked()
		for _, sum := range both(t, 100, 4, 20, l...) {
			for i, from := range asked {
				for j, middle := range asked[i:] {
					for _, to := range asked[i+j:] {
						wantSum(t, sum, from, to, sum(from, middle)+sum(middle, to))
					}
				}
			}
		}
	}
}

// wantNoneLess wants no sum between minutes that are asked to be less than another one's.
func wantNoneLess(t *testing.T, greater, less summer, asked []int) (more bool) {
	t.Helper()
	for _, from := range asked {
		for _, to := range asked {
			a, b := greater(from, to), less(from, to)
			if a < b {
				t.Fatalf("from %d up to %d: %d, which is less than %d", from, to, a, b)
			}
			more = more || a > b
		}
	}
	return more
}

// P7.2: a reading with greater tenths of a Minute and Seq that are there makes no sum less, of an index and of a series.
func TestWarmer(t *testing.T) {
	var d dice
	more := false
	for number := range 30 {
		l := slices.Concat(d.few(10), d.far(3))
		w := &words{100, number % 7, 20, nil}
		w.put(l...)
		x, s := made(t, 100, w.gap, 20, l...), aired(t, 100, w.gap, l...)
		for _, r := range w.readings {
			was := s.Clone()
			r.Tenths = min(top, r.Tenths+1+d.below(100))
			wantPut(t, x, r, true)
			s.Put(r)
			for _, sum := range []summer{x.Sum, over(s, 20)} {
				more = wantNoneLess(t, sum, over(was, 20), []int{0, r.Minute, r.Minute + 1, r.Minute + w.gap + 1, 20, 50, end}) || more
			}
		}
	}
	if !more {
		t.Error("no sum became more")
	}
}

// P7.2: over a limit that is higher no sum is greater.
func TestHigherLimit(t *testing.T) {
	var d dice
	for number := range 12 {
		l := slices.Concat(d.few(10), d.far(3))
		w := &words{100, number % 7, 0, l}
		limits := slices.Concat(tenths(), []int{-50, -49, 20, 21, 99, 101, 149, 150})
		slices.Sort(limits)
		for i, limit := range limits[1:] {
			low, high := both(t, 100, w.gap, limits[i], l...), both(t, 100, w.gap, limit, l...)
			for j := range low {
				wantNoneLess(t, low[j], high[j], w.asked())
			}
			if limit <= 100 && low[1](0, end) == high[1](0, end) {
				t.Errorf("over %d as much as over %d", limit, limits[i])
			}
		}
	}
}

// Rule 4: what Series answers is a clone: to change it changes nothing of the index, nor of another answer, and the other way round.
func TestSeriesIsAClone(t *testing.T) {
	var d dice
	for n := range 30 {
		l := d.few(n)
		w := &words{100, 4, 20, nil}
		w.put(l...)
		x := made(t, 100, 4, 20, l...)
		x.Sum(0, d.below(60))
		a, b := x.Series(), x.Series()
		for _, r := range []api.Reading{reading(0, 0, 500), reading(7, 1, 600), reading(45, 0, -10), reading(lastMinute, 0, 700)} {
			a.Put(r)
		}
		wantWords(t, w, []int{-1, 0, 1, 7, 8, 20, 45, 46, 60, lastMinute, end}, x.Sum, over(b, 20), over(x.Series(), 20))
		wantAir(t, x.Series(), 100, 4, w.readings...)
		wantAir(t, b, 100, 4, w.readings...)
		was := a.All()
		for _, r := range []api.Reading{reading(0, 0, 501), reading(9, 2, 800), reading(lastMinute, lastSeq, 700)} {
			wantPut(t, x, r, true)
			w.put(r)
		}
		wantAir(t, a, 100, 4, was...)
		wantWords(t, w, []int{-1, 0, 1, 9, 10, 20, 60, lastMinute, end}, x.Sum)
	}
}

// Rule 4: a series that is summed up stays as it is, and is not kept: behind a reading its sums are other ones.
func TestSumKeepsNothing(t *testing.T) {
	var d dice
	l := d.few(20)
	w := &words{100, 4, 20, nil}
	w.put(l...)
	s := aired(t, 100, 4, l...)
	wantWords(t, w, w.asked(), over(s, 20))
	wantAir(t, s, 100, 4, w.readings...)
	for _, r := range []api.Reading{reading(0, 5, 300), reading(30, 5, 400), reading(lastMinute, 0, 500)} {
		s.Put(r)
		w.put(r)
		wantWords(t, w, w.asked(), over(s, 20))
	}
	other := aired(t, 70, 2, reading(5, 0, 10))
	wantWords(t, &words{70, 2, 20, other.All()}, ends(), over(other, 20))
	wantWords(t, w, ends(), over(s, 20))
}

// Two indexes have nothing in common, also if they began alike.
func TestTwoIndexes(t *testing.T) {
	x, y, z := made(t, 100, 5, 40), made(t, 100, 5, 40), made(t, 100, 5, 50)
	wantSum(t, x.Sum, 0, 100, 6000)
	wantPut(t, y, reading(0, 0, 45), true)
	wantSum(t, x.Sum, 0, 100, 6000)
	wantSum(t, y.Sum, 0, 100, 6*5+94*60)
	wantSum(t, z.Sum, 0, 100, 5000)
	wantPut(t, z, reading(0, 0, 55), true)
	wantPut(t, x, reading(0, 0, 65), true)
	wantSum(t, x.Sum, 0, 100, 6*25+94*60)
	wantSum(t, y.Sum, 0, 100, 6*5+94*60)
	wantSum(t, z.Sum, 0, 100, 6*5+94*50)
}

// P7.3: many readings, one behind the other, with sums asked behind each; to add up all of it anew each time would take far too long.
func TestManyAsked(t *testing.T) {
	x, want := made(t, 100, 3, 40), 0
	for i := range 1 << 17 {
		r := reading(8*i, 0, i%90)
		wantPut(t, x, r, true)
		wantSum(t, x.Sum, 0, r.Minute, want)
		wantSum(t, x.Sum, r.Minute, end, 4*max(0, r.Tenths-40)+60*(end-r.Minute-4))
		want += 4*max(0, r.Tenths-40) + 4*60
	}
	wantSum(t, x.Sum, 0, end, want)
	wantSum(t, over(x.Series(), 40), 0, end, want)
}

// P1, P2: each call ends, at whatever it is given, and answers the same again.
func TestAgain(t *testing.T) {
	edges := slices.Concat(tenths(), noTenths(), ends(), noGaps())
	ask := func() (told []string) {
		s, _ := series.New(100, 5)
		x, _ := excess.New(100, 5, 40)
		for i, n := range edges {
			other := edges[len(edges)-1-i]
			_, e := excess.New(n, other, other)
			_, f := excess.New(other, 5, n)
			changed, g := x.Put(reading(n, i, other))
			s.Put(reading(n, i, other))
			told = append(told, fmt.Sprint(e, f, g, changed, x.Sum(n, other), x.Sum(other, n), excess.Sum(s, n, 0, other), excess.Sum(s, 0, n, other), x.Series().All()))
		}
		return told
	}
	if !slices.Equal(ask(), ask()) {
		t.Error("asked again, another answer")
	}
}
