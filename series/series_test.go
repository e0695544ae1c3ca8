package series_test

import (
	"cmp"
	"fmt"
	"math"
	"slices"
	"testing"

	"hoarfrost/api"
	"hoarfrost/series"
)

// The ends of what a reading, and a series, may have.
const (
	top        = 1 << 40
	lastMinute = 1<<20 - 1
	lastSeq    = 65535
)

func reading(minute, seq, tenths int) api.Reading {
	return api.Reading{Minute: minute, Seq: seq, Tenths: tenths}
}

// The numbers that a series' and a reading's fields may be, and those that they may not be; some would be, if they wrapped round.
func tenths() []int { return []int{-top, -top + 1, -181, -1, 0, 1, 45, 100, top - 1, top} }

func noTenths() []int {
	return []int{-top - 1, top + 1, -2 * top, 2 * top, -1 << 62, 1 << 62, math.MinInt, math.MinInt + 1, math.MaxInt}
}

func minutes() []int {
	return []int{0, 1, 2, 65535, 65536, 1 << 19, lastMinute - 1, lastMinute}
}

func noMinutes() []int {
	return []int{-1, 1 << 20, -2, 1<<20 + 1, -1 << 20, 1<<32 + 1, -1<<32 + 1, math.MinInt, math.MinInt + 1, math.MaxInt}
}

func seqs() []int { return []int{0, 1, 255, 256, 32768, lastSeq - 1, lastSeq} }

func noSeqs() []int {
	return []int{-1, 65536, -2, 65537, -65535, 1<<32 + 1, -1<<32 + 1, math.MinInt, math.MinInt + 1, math.MaxInt}
}

// spread are n numbers of all sizes, other ones for each number, the same in each run.
func spread(number, n int) []int {
	l, x := make([]int, n), uint64(number)
	for i := range l {
		x = x*6364136223846793005 + 1442695040888963407
		l[i] = int((x ^ x>>31) * 0x9e3779b97f4a7c15 >> (1 + i%40))
	}
	return l
}

// shuffled are the same things in another order, one for each number.
func shuffled[T any](l []T, number int) []T {
	l = slices.Clone(l)
	x := uint64(number)*2 + 1
	for i := len(l) - 1; i > 0; i-- {
		x = x*6364136223846793005 + 1442695040888963407
		j := int(x>>33) % (i + 1)
		l[i], l[j] = l[j], l[i]
	}
	return l
}

// orders are all orders of things.
func orders[T any](l []T) (all [][]T) {
	if len(l) == 0 {
		return [][]T{nil}
	}
	for i := range l {
		for _, rest := range orders(slices.Concat(l[:i], l[i+1:])) {
			all = append(all, append([]T{l[i]}, rest...))
		}
	}
	return all
}

// words is a series by the words: its readings stand as they came, and all of them are gone through each time.
type words struct {
	worst, gap int
	readings   []api.Reading
}

func (w *words) put(r api.Reading) bool {
	for i, other := range w.readings {
		if other.Minute == r.Minute && other.Seq == r.Seq {
			w.readings[i].Tenths = max(other.Tenths, r.Tenths)
			return r.Tenths > other.Tenths
		}
	}
	w.readings = append(w.readings, r)
	return true
}

// fresh is the reading that counts at a minute, if it is not too long ago there.
func (w *words) fresh(minute int) (api.Reading, bool) {
	last, there := api.Reading{}, false
	for _, r := range w.readings {
		if r.Minute <= minute && (!there || r.Minute > last.Minute || r.Minute == last.Minute && r.Seq > last.Seq) {
			last, there = r, true
		}
	}
	if !there || minute-last.Minute > w.gap {
		return api.Reading{}, false
	}
	return last, true
}

func (w *words) at(minute int) int {
	if r, ok := w.fresh(minute); ok {
		return r.Tenths
	}
	return w.worst
}

func (w *words) next(minute int) int {
	l := []int{}
	for _, r := range w.readings {
		if r.Minute > minute {
			l = append(l, r.Minute)
		}
	}
	if r, ok := w.fresh(minute); ok {
		l = append(l, r.Minute+w.gap+1)
	}
	if len(l) == 0 {
		return -1
	}
	return slices.Min(l)
}

func (w *words) all() []api.Reading {
	return slices.SortedFunc(slices.Values(w.readings), func(a, b api.Reading) int {
		return cmp.Compare(a.Minute*65536+a.Seq, b.Minute*65536+b.Seq)
	})
}

// asked are minutes that tell series apart: about each reading, about where each one ends, and beyond all.
func (w *words) asked() []int {
	l := []int{math.MinInt, math.MinInt + 1, -1 << 40, -lastMinute, -2, -1, 0, 1, lastMinute - 1, lastMinute, 1 << 20, 1<<21 - 1, 1 << 21, 1 << 40, math.MaxInt - 1, math.MaxInt}
	for _, r := range w.readings {
		l = append(l, r.Minute-1, r.Minute, r.Minute+1, r.Minute+w.gap-1, r.Minute+w.gap, r.Minute+w.gap+1, r.Minute+w.gap+2)
	}
	slices.Sort(l)
	return slices.Compact(l)
}

// made is a series that may be, in which readings that may be were put.
func made(t *testing.T, worst, gap int, l ...api.Reading) *series.Series {
	t.Helper()
	s, e := series.New(worst, gap)
	if e != api.OK || s == nil {
		t.Fatalf("New(%d, %d): %v, error %d", worst, gap, s, e)
	}
	for _, r := range l {
		if _, e := s.Put(r); e != api.OK {
			t.Fatalf("Put(%v): error %d", r, e)
		}
	}
	return s
}

// told is made, and the same by the words.
func told(t *testing.T, worst, gap int, l ...api.Reading) (*series.Series, *words) {
	t.Helper()
	w := &words{worst: worst, gap: gap}
	for _, r := range l {
		w.put(r)
	}
	return made(t, worst, gap, l...), w
}

func wantPut(t *testing.T, s *series.Series, r api.Reading, want bool) {
	t.Helper()
	if got, e := s.Put(r); e != api.OK || got != want {
		t.Fatalf("Put(%v): %t, error %d, not %t", r, got, e, want)
	}
}

func wantAt(t *testing.T, s *series.Series, minute, want int) {
	t.Helper()
	if got := s.At(minute); got != want {
		t.Fatalf("At(%d): %d, not %d", minute, got, want)
	}
}

func wantNext(t *testing.T, s *series.Series, minute, want int) {
	t.Helper()
	if got := s.Next(minute); got != want {
		t.Fatalf("Next(%d): %d, not %d", minute, got, want)
	}
}

func wantAll(t *testing.T, s *series.Series, want ...api.Reading) {
	t.Helper()
	if got := s.All(); !slices.Equal(got, want) {
		t.Fatalf("All: %v, not %v", got, want)
	}
}

// wantWords wants a series to be what it is by the words.
func wantWords(t *testing.T, s *series.Series, w *words) {
	t.Helper()
	wantAll(t, s, w.all()...)
	for _, minute := range w.asked() {
		wantAt(t, s, minute, w.at(minute))
		wantNext(t, s, minute, w.next(minute))
	}
}

// wantSame wants two series to have the same.
func wantSame(t *testing.T, a, b *series.Series, w *words) {
	t.Helper()
	wantAll(t, a, b.All()...)
	for _, minute := range w.asked() {
		wantAt(t, a, minute, b.At(minute))
		wantNext(t, a, minute, b.Next(minute))
	}
}

// P6.1, R1: a series there can be, and none else.
func TestNew(t *testing.T) {
	for _, worst := range slices.Concat(tenths(), noTenths()) {
		for _, gap := range slices.Concat(minutes(), noMinutes()) {
			if slices.Contains(tenths(), worst) && slices.Contains(minutes(), gap) {
				s := made(t, worst, gap)
				wantWords(t, s, &words{worst: worst, gap: gap})
				continue
			}
			if s, e := series.New(worst, gap); s != nil || e != api.ErrArg {
				t.Errorf("New(%d, %d): %v, error %d", worst, gap, s, e)
			}
		}
	}
}

// P6.1, R1: a series without readings has its worst in all minutes, and nothing comes behind them.
func TestWithoutReadings(t *testing.T) {
	for _, worst := range tenths() {
		for _, gap := range []int{0, 5, lastMinute} {
			s := made(t, worst, gap)
			wantAll(t, s)
			for _, minute := range slices.Concat(minutes(), noMinutes()) {
				wantAt(t, s, minute, worst)
				wantNext(t, s, minute, -1)
			}
		}
	}
}

// P6.1, R1, rule 8: a nil series.
func TestNil(t *testing.T) {
	var s *series.Series
	for _, minute := range slices.Concat(minutes(), noMinutes()) {
		wantAt(t, s, minute, 0)
		wantNext(t, s, minute, -1)
		for _, r := range []api.Reading{reading(minute, 0, 0), reading(0, minute, 0), reading(0, 0, minute)} {
			if changed, e := s.Put(r); changed || e != api.ErrArg {
				t.Errorf("Put(%v) of nil: %t, error %d", r, changed, e)
			}
		}
	}
	wantAll(t, s)
	if c := s.Clone(); c != nil {
		t.Errorf("Clone of nil: %v", c)
	}
}

// P6.1, R1: a reading that may be is put, and told just as it is.
func TestRightReadings(t *testing.T) {
	for _, minute := range minutes() {
		for _, seq := range seqs() {
			for _, n := range tenths() {
				s := made(t, 7, 3)
				r := reading(minute, seq, n)
				wantPut(t, s, r, true)
				wantWords(t, s, &words{worst: 7, gap: 3, readings: []api.Reading{r}})
			}
		}
	}
}

// wantWrong wants a reading to be one that may not be, and to change nothing.
func wantWrong(t *testing.T, s *series.Series, w *words, r api.Reading) {
	t.Helper()
	if changed, e := s.Put(r); changed || e != api.ErrArg {
		t.Errorf("Put(%v): %t, error %d", r, changed, e)
	}
	wantWords(t, s, w)
}

// P6.1, R1, rule 3: a reading that may not be is an error, and changes nothing, whether something else is there or not.
func TestWrongReadings(t *testing.T) {
	for _, there := range [][]api.Reading{nil, {reading(0, 0, 1), reading(9, 0, 2), reading(9, lastSeq, 3), reading(lastMinute, lastSeq, 4)}} {
		s, w := told(t, 7, 3, there...)
		for _, n := range noTenths() {
			for _, minute := range minutes() {
				wantWrong(t, s, w, reading(minute, 0, n))
				wantWrong(t, s, w, reading(minute, lastSeq, n))
			}
		}
		for _, n := range tenths() {
			for _, minute := range noMinutes() {
				wantWrong(t, s, w, reading(minute, 0, n))
				wantWrong(t, s, w, reading(minute, lastSeq, n))
			}
			for _, seq := range noSeqs() {
				wantWrong(t, s, w, reading(0, seq, n))
				wantWrong(t, s, w, reading(9, seq, n))
				wantWrong(t, s, w, reading(lastMinute, seq, n))
			}
		}
		wantWrong(t, s, w, reading(-1, -1, -top-1))
		wantWrong(t, s, w, reading(1<<20, 65536, top+1))
	}
}

// P6.1, R1: the document's example.
func TestExample(t *testing.T) {
	s := made(t, 100, 5, reading(2, 0, 45))
	for minute, want := range []int{100, 100, 45, 45, 45, 45, 45, 45, 100, 100, 100} {
		wantAt(t, s, minute, want)
	}
	for minute, want := range []int{2, 2, 8, 8, 8, 8, 8, 8, -1, -1, -1} {
		wantNext(t, s, minute, want)
	}
}

// P6.1, R1: of one Minute the greatest Seq counts, whichever was put first, and whatever its Tenths are.
func TestSeqsOfOneMinute(t *testing.T) {
	for _, n := range []struct{ first, second int }{{40, 90}, {90, 40}, {40, 40}, {-top, top}, {top, -top}} {
		for _, seq := range []struct{ less, greater int }{{0, 1}, {0, lastSeq}, {255, 256}, {lastSeq - 1, lastSeq}} {
			less, greater := reading(6, seq.less, n.first), reading(6, seq.greater, n.second)
			for _, l := range [][]api.Reading{{less, greater}, {greater, less}} {
				s := made(t, 100, 5)
				wantPut(t, s, l[0], true)
				wantAt(t, s, 6, l[0].Tenths)
				wantPut(t, s, l[1], true)
				wantAll(t, s, less, greater)
				for minute, want := range map[int]int{5: 100, 6: n.second, 11: n.second, 12: 100} {
					wantAt(t, s, minute, want)
				}
				wantNext(t, s, 5, 6)
				wantNext(t, s, 6, 12)
			}
		}
	}
}

// P6.1, R1: a greater Seq of an earlier minute, or of one that is still to come, doesn't count.
func TestMinuteAheadOfSeq(t *testing.T) {
	s := made(t, 100, 5, reading(4, lastSeq, 1), reading(6, 0, 2), reading(8, lastSeq, 3))
	for minute, want := range []int{100, 100, 100, 100, 1, 1, 2, 2, 3, 3, 3, 3, 3, 3, 100} {
		wantAt(t, s, minute, want)
	}
	wantAll(t, s, reading(4, lastSeq, 1), reading(6, 0, 2), reading(8, lastSeq, 3))
}

// P6.1, R1: a reading that comes twice changes nothing; of the same Minute and Seq the greater Tenths stay.
func TestPutTwice(t *testing.T) {
	for _, n := range tenths() {
		for _, r := range []api.Reading{reading(0, 0, n), reading(9, 4, n), reading(lastMinute, lastSeq, n)} {
			s := made(t, 100, 5, reading(9, 3, 1), reading(9, 5, 2), reading(10, 4, 3))
			wantPut(t, s, r, true)
			wantPut(t, s, r, false)
			kept := n
			for _, other := range tenths() {
				wantPut(t, s, reading(r.Minute, r.Seq, other), other > kept)
				kept = max(kept, other)
				wantPut(t, s, reading(r.Minute, r.Seq, other), false)
				wantWords(t, s, &words{100, 5, []api.Reading{reading(9, 3, 1), reading(9, 5, 2), reading(10, 4, 3), reading(r.Minute, r.Seq, kept)}})
			}
		}
	}
}

// P6.1, R1: greater, less and the same Tenths of a reading that is there, and of those beside it nothing.
func TestGreaterStays(t *testing.T) {
	s := made(t, 100, 5, reading(3, 7, 20), reading(4, 7, 30), reading(4, 8, 10))
	wantPut(t, s, reading(4, 7, 29), false)
	wantAll(t, s, reading(3, 7, 20), reading(4, 7, 30), reading(4, 8, 10))
	wantPut(t, s, reading(4, 7, 31), true)
	wantAll(t, s, reading(3, 7, 20), reading(4, 7, 31), reading(4, 8, 10))
	wantPut(t, s, reading(4, 8, 9), false)
	wantPut(t, s, reading(4, 8, 11), true)
	wantAt(t, s, 4, 11)
	wantPut(t, s, reading(3, 7, 21), true)
	wantAt(t, s, 3, 21)
	wantAll(t, s, reading(3, 7, 21), reading(4, 7, 31), reading(4, 8, 11))
}

// P6.1, R1: a reading comes to stand at the beginning, in the middle, at the end, by its Minute or its Seq alone.
func TestPlaces(t *testing.T) {
	there := []api.Reading{reading(10, 5, 1), reading(20, 5, 2), reading(20, 7, 3), reading(30, 5, 4)}
	for _, c := range []struct {
		r     api.Reading
		place int
	}{
		{reading(0, 0, 9), 0}, {reading(9, lastSeq, 9), 0}, {reading(10, 4, 9), 0},
		{reading(10, 6, 9), 1}, {reading(15, 0, 9), 1}, {reading(20, 4, 9), 1},
		{reading(20, 6, 9), 2},
		{reading(20, 8, 9), 3}, {reading(25, lastSeq, 9), 3}, {reading(30, 4, 9), 3},
		{reading(30, 6, 9), 4}, {reading(31, 0, 9), 4}, {reading(lastMinute, lastSeq, 9), 4},
	} {
		s, w := told(t, 100, 5, there...)
		wantPut(t, s, c.r, true)
		wantAll(t, s, slices.Insert(slices.Clone(there), c.place, c.r)...)
		w.put(c.r)
		wantWords(t, s, w)
	}
}

// P6.1, R1: the air below all readings, at one, between two, GAP and GAP and 1 minutes behind the one that counts, and Next at the same minutes.
func TestAtAndNext(t *testing.T) {
	s := made(t, 100, 5, reading(10, 1, 40), reading(13, 1, 41), reading(19, 1, 42), reading(30, 1, 43))
	for _, c := range []struct{ minute, at, next int }{
		{math.MinInt, 100, 10}, {math.MinInt + 1, 100, 10}, {-1, 100, 10}, {0, 100, 10}, {9, 100, 10},
		{10, 40, 13}, {11, 40, 13}, {12, 40, 13}, // the next reading comes ahead of the silence
		{13, 41, 19}, {15, 41, 19}, {18, 41, 19}, // both come in one minute
		{19, 42, 25}, {20, 42, 25}, {24, 42, 25}, // the silence comes first
		{25, 100, 30}, {26, 100, 30}, {29, 100, 30}, // it is silent
		{30, 43, 36}, {35, 43, 36}, {36, 100, -1}, {37, 100, -1},
		{lastMinute, 100, -1}, {1 << 20, 100, -1}, {math.MaxInt - 1, 100, -1}, {math.MaxInt, 100, -1},
	} {
		wantAt(t, s, c.minute, c.at)
		wantNext(t, s, c.minute, c.next)
	}
}

// P6.1, R1: the least and the greatest GAP, with readings at both ends of the minutes.
func TestEndsOfGap(t *testing.T) {
	l := []api.Reading{reading(0, 0, 40), reading(lastMinute, lastSeq, 41)}
	none := made(t, 100, 0, l...)
	for _, c := range []struct{ minute, at, next int }{
		{-1, 100, 0}, {0, 40, 1}, {1, 100, lastMinute}, {2, 100, lastMinute}, {lastMinute - 1, 100, lastMinute}, {lastMinute, 41, 1 << 20}, {1 << 20, 100, -1},
	} {
		wantAt(t, none, c.minute, c.at)
		wantNext(t, none, c.minute, c.next)
	}
	// From the one reading to the other one it is not too long.
	most := made(t, 100, lastMinute, l...)
	for _, c := range []struct{ minute, at, next int }{
		{-1, 100, 0}, {0, 40, lastMinute}, {lastMinute - 1, 40, lastMinute}, {lastMinute, 41, 1<<21 - 1}, {1 << 20, 41, 1<<21 - 1}, {1<<21 - 2, 41, 1<<21 - 1}, {1<<21 - 1, 100, -1}, {math.MaxInt, 100, -1},
	} {
		wantAt(t, most, c.minute, c.at)
		wantNext(t, most, c.minute, c.next)
	}
	first := made(t, 100, lastMinute, l[0])
	for _, c := range []struct{ minute, at, next int }{{0, 40, 1 << 20}, {lastMinute, 40, 1 << 20}, {1 << 20, 100, -1}} {
		wantAt(t, first, c.minute, c.at)
		wantNext(t, first, c.minute, c.next)
	}
}

// P6.1, R1: readings that are as warm as the worst, or as one another, are still those that are told of by Next.
func TestNextOfTheSameAir(t *testing.T) {
	s := made(t, 100, 5, reading(10, 0, 100), reading(12, 0, 100), reading(14, 0, 100))
	for minute, want := range map[int]int{0: 10, 10: 12, 11: 12, 12: 14, 14: 20, 19: 20, 20: -1} {
		wantNext(t, s, minute, want)
		wantAt(t, s, minute, 100)
	}
}

// few are readings close to one another, some twice, some of the same Minute and Seq.
func few(number, n int) []api.Reading {
	l := []api.Reading{}
	for _, x := range spread(number, n) {
		l = append(l, reading(x%41, x>>6%3, x>>9%200-50))
	}
	return l
}

// far are readings of all minutes and seqs.
func far(number, n int) []api.Reading {
	l := []api.Reading{}
	for _, x := range spread(number, n) {
		l = append(l, reading(x%(1<<20), x>>3%65536, x%(2*top+1)-top))
	}
	return l
}

// P6.1, R1: what a series has, and tells, behind each reading that is put.
func TestStepByStep(t *testing.T) {
	for number := range 40 {
		gap := []int{0, 1, 3, 8, 50, lastMinute}[number%6]
		for _, l := range [][]api.Reading{few(number, 30), far(number, 20)} {
			s, w := told(t, 100, gap)
			for _, r := range l {
				wantPut(t, s, r, w.put(r))
				wantWords(t, s, w)
			}
			for _, r := range l {
				wantPut(t, s, r, false)
			}
			wantWords(t, s, w)
		}
	}
}

// P6.2: all orders of readings, each put twice, lead to the same series.
func TestAllOrders(t *testing.T) {
	for _, l := range [][]api.Reading{
		{reading(5, 1, 10), reading(5, 2, 20), reading(7, 0, 30), reading(4, 9, 40), reading(20, 0, 50)},
		{reading(5, 1, 10), reading(5, 1, 20), reading(5, 1, 15), reading(5, 2, 5), reading(6, 1, 5)},
		{reading(0, 0, -top), reading(0, 0, top), reading(lastMinute, lastSeq, top), reading(lastMinute, lastSeq, -top), reading(lastMinute, 0, 0)},
	} {
		first, w := told(t, 100, 5, l...)
		wantWords(t, first, w)
		for _, order := range orders(l) {
			wantSame(t, made(t, 100, 5, order...), first, w)
			wantSame(t, made(t, 100, 5, slices.Concat(order, order)...), first, w)
			wantSame(t, made(t, 100, 5, slices.Concat(order, l)...), first, w)
		}
	}
}

// P6.2: many readings, in some orders, each as often as one likes.
func TestManyOrders(t *testing.T) {
	for number := range 12 {
		for _, l := range [][]api.Reading{few(number, 60), far(number, 60), slices.Concat(few(number, 20), far(number, 20))} {
			first, w := told(t, 100, 4, l...)
			wantWords(t, first, w)
			slices.Reverse(l)
			wantSame(t, made(t, 100, 4, l...), first, w)
			for i := range 8 {
				wantSame(t, made(t, 100, 4, shuffled(l, i)...), first, w)
				wantSame(t, made(t, 100, 4, shuffled(slices.Concat(l, l), i)...), first, w)
				wantSame(t, made(t, 100, 4, shuffled(slices.Concat(l, l[:i], l[i:], l[2*i:]), i)...), first, w)
			}
		}
	}
}

// P6.2: what was asked between makes no difference.
func TestAskedBetween(t *testing.T) {
	for number := range 12 {
		l := few(number, 40)
		quiet, w := told(t, 100, 4, l...)
		asked := made(t, 100, 4)
		for i, r := range l {
			asked.Put(r)
			asked.All()
			asked.At(i)
			asked.Next(i)
			asked.Clone()
		}
		wantSame(t, asked, quiet, w)
	}
}

// P6.2: more readings than a few, from the one end to the other, backwards, and in disorder.
func TestMany(t *testing.T) {
	l := []api.Reading{}
	for i := range 1 << 14 {
		l = append(l, reading(64*i+i%3, 7*i%65536, i%300-100))
	}
	backwards := slices.Clone(l)
	slices.Reverse(backwards)
	for _, order := range [][]api.Reading{l, backwards, shuffled(l, 1), shuffled(slices.Concat(l, l), 2)} {
		s := made(t, 250, 63, order...)
		wantAll(t, s, l...)
		for i, r := range l {
			silent, next := r.Minute+64, math.MaxInt
			if i < len(l)-1 {
				next = l[i+1].Minute
				wantNext(t, s, next-1, next)
			}
			wantAt(t, s, r.Minute, r.Tenths)
			wantNext(t, s, r.Minute, min(silent, next))
			wantAt(t, s, min(silent, next)-1, r.Tenths)
			if silent < next {
				wantAt(t, s, silent, 250)
				wantAt(t, s, next-1, 250)
			}
		}
		wantNext(t, s, l[len(l)-1].Minute+64, -1)
	}
}

// P6.2: all seqs of one minute, of which the greatest counts.
func TestAllSeqs(t *testing.T) {
	l := []api.Reading{}
	for seq := range 65536 {
		l = append(l, reading(77, seq, 65536-seq))
	}
	for _, order := range [][]api.Reading{l, shuffled(l, 3)} {
		s := made(t, 100, 5, order...)
		wantAll(t, s, l...)
		for minute, want := range map[int]int{76: 100, 77: 1, 82: 1, 83: 100} {
			wantAt(t, s, minute, want)
		}
		wantNext(t, s, 76, 77)
		wantNext(t, s, 77, 83)
		wantNext(t, s, 83, -1)
	}
}

// wantRun wants the air to be the same from a minute up to another one, and Next to be that one.
func wantRun(t *testing.T, s *series.Series, from, to int) {
	t.Helper()
	air := s.At(from)
	for minute := from; minute < to; minute++ {
		wantAt(t, s, minute, air)
		wantNext(t, s, minute, to)
	}
}

// P6.3: the air of every minute up to its Next; where it becomes another one, there is a Next.
func TestRuns(t *testing.T) {
	for number := range 150 {
		gap := number % 13
		s, w := told(t, 100, gap, few(number, 1+number%25)...)
		minute, runs := -3, 0
		for next := s.Next(minute); next != -1; next = s.Next(minute) {
			if next <= minute {
				t.Fatalf("Next(%d): %d", minute, next)
			}
			wantRun(t, s, minute, next)
			minute, runs = next, runs+1
		}
		if runs == 0 {
			t.Error("no reading was told by Next")
		}
		for ; minute < 200; minute++ {
			wantAt(t, s, minute, 100)
			wantNext(t, s, minute, -1)
		}
		for minute := -3; minute < 200; minute++ {
			wantAt(t, s, minute, w.at(minute))
			wantNext(t, s, minute, w.next(minute))
		}
	}
}

// P6.3: the Next of each minute is the least one above it at which a reading stands, or the one that counts is too long ago for the first time.
func TestNextIsTheLeast(t *testing.T) {
	for number := range 60 {
		gap := number % 11
		s, w := told(t, 100, gap, few(number, 1+number%9)...)
		want := -1
		for minute := 120; minute >= -3; minute-- {
			wantNext(t, s, minute, want)
			_, fresh := w.fresh(minute)
			_, before := w.fresh(minute - 1)
			stands := slices.ContainsFunc(w.readings, func(r api.Reading) bool { return r.Minute == minute })
			if stands || before && !fresh {
				want = minute
			}
		}
	}
}

// P6.3: more than GAP minutes behind the last reading it is the worst, for ever.
func TestSilence(t *testing.T) {
	for number := range 40 {
		gap := []int{0, 1, 7, 1000, lastMinute - 1, lastMinute}[number%6]
		l := far(number, 15)
		last := slices.MaxFunc(l, func(a, b api.Reading) int { return cmp.Compare(a.Minute, b.Minute) }).Minute
		worst := tenths()[number%len(tenths())]
		s := made(t, worst, gap, l...)
		silent := last + gap + 1
		wantNext(t, s, silent-1, silent)
		for _, minute := range []int{silent, silent + 1, silent + 1000, 1 << 21, 1 << 40, math.MaxInt - 1, math.MaxInt} {
			wantAt(t, s, minute, worst)
			wantNext(t, s, minute, -1)
		}
	}
}

// P6.1, R1: a clone has the same; what is put in the one doesn't change the other one.
func TestClone(t *testing.T) {
	for number := range 20 {
		l := few(number, 30)
		s, w := told(t, 100, 4, l...)
		c := s.Clone()
		wantSame(t, c, s, w)
		for i, r := range slices.Concat(few(number+20, 10), []api.Reading{reading(0, 0, 200), reading(l[0].Minute, l[0].Seq, 500), reading(lastMinute, 0, 3)}) {
			changed, e := c.Put(r)
			if e != api.OK {
				t.Errorf("Put(%v) in a clone: error %d", r, e)
			}
			wantWords(t, s, w)
			other := &words{100, 4, c.All()}
			wantWords(t, c, other)
			// And the other way round, from a clone of the clone on.
			again := c.Clone()
			wantPut(t, c, reading(50+i, 0, 1), true)
			wantWords(t, again, other)
			if !changed {
				wantPut(t, again, r, false)
			}
		}
	}
}

// P6.1: what is put in a series doesn't change those that were cloned from it.
func TestClonedFrom(t *testing.T) {
	for _, l := range [][]api.Reading{nil, {reading(5, 0, 10)}, few(1, 30)} {
		s, w := told(t, 100, 4, l...)
		c := s.Clone()
		for _, r := range []api.Reading{reading(0, 0, 300), reading(5, 0, 300), reading(6, 1, 300), reading(lastMinute, lastSeq, 300)} {
			s.Put(r)
			wantWords(t, c, w)
		}
		wantWords(t, c.Clone(), w)
	}
}

// Both may grow within the memory that one of them had: neither may find the other's readings there.
func TestCloneAndItsFrontGrow(t *testing.T) {
	for n := range 40 {
		l := []api.Reading{}
		for i := range n {
			l = append(l, reading(2*i, 0, i))
		}
		s := made(t, 100, 4, l...)
		c := s.Clone()
		wantPut(t, s, reading(100, 0, 1), true)
		wantPut(t, c, reading(101, 0, 2), true)
		wantPut(t, s, reading(102, 0, 3), true)
		wantAll(t, s, slices.Concat(l, []api.Reading{reading(100, 0, 1), reading(102, 0, 3)})...)
		wantAll(t, c, slices.Concat(l, []api.Reading{reading(101, 0, 2)})...)
	}
}

// Rule 4: the list that is answered is new: spoilt, and written behind its length, it changes neither the series nor another answer.
func TestAllIsNew(t *testing.T) {
	for n := range 40 {
		s, w := told(t, 100, 4, few(n, n)...)
		want := w.all()
		a, b := s.All(), s.All()
		_ = append(a, reading(1, 1, 1))
		_ = append(b, reading(2, 2, 2))
		for i := range a {
			a[i] = reading(-1, -1, top+1)
		}
		if !slices.Equal(b, want) {
			t.Errorf("another answer was changed: %v", b)
		}
		wantWords(t, s, w)
		wantPut(t, s, reading(lastMinute, 0, 5), true)
		clear(b[:cap(b)])
		w.put(reading(lastMinute, 0, 5))
		wantWords(t, s, w)
	}
}

// Rule 4: a reading that is handed in is not kept: another one in its place changes nothing, and it isn't written into.
func TestPutKeepsNothing(t *testing.T) {
	l := []api.Reading{reading(3, 0, 10), reading(3, 0, 20), reading(3, 0, 15), reading(1, 0, 30)}
	was := slices.Clone(l)
	s, w := told(t, 100, 4)
	for i := range l {
		s.Put(l[i])
		w.put(was[i])
	}
	if !slices.Equal(l, was) {
		t.Errorf("readings that were handed in became %v", l)
	}
	clear(l)
	wantWords(t, s, w)
}

// P1, P2: each call ends, at whatever it is given, and answers the same again.
func TestAgain(t *testing.T) {
	edges := slices.Concat(tenths(), noTenths(), minutes(), noMinutes(), seqs(), noSeqs())
	ask := func() (told []string) {
		for i, worst := range edges {
			s, e := series.New(worst, edges[len(edges)-1-i])
			told = append(told, fmt.Sprint(s == nil, e))
		}
		s, _ := series.New(100, 5)
		for _, minute := range edges {
			for _, seq := range []int{-1, 0, lastSeq, 65536} {
				changed, e := s.Put(reading(minute, seq, minute))
				told = append(told, fmt.Sprint(changed, e))
			}
		}
		for _, minute := range edges {
			told = append(told, fmt.Sprint(s.At(minute), s.Next(minute), s.All(), s.Clone().All()))
		}
		return told
	}
	if !slices.Equal(ask(), ask()) {
		t.Error("asked again, another answer")
	}
}
