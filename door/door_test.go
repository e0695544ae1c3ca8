package door_test

import (
	"fmt"
	"math"
	"slices"
	"testing"

	"hoarfrost/api"
	"hoarfrost/door"
)

// The ends of what a mark may have, and of the minutes that are in runs.
const (
	lastMinute = 1<<20 - 1
	lastSeq    = 65535
	end        = 1 << 20
)

// opened, and closed, are marks of a door.
func opened(minute, seq int) api.Mark { return api.Mark{Minute: minute, Seq: seq, Open: true} }

func closed(minute, seq int) api.Mark { return api.Mark{Minute: minute, Seq: seq} }

func mark(minute, seq int, open bool) api.Mark {
	return api.Mark{Minute: minute, Seq: seq, Open: open}
}

func run(from, to int) api.Run { return api.Run{From: from, To: to} }

// The numbers that a mark's fields may be, and those that they may not be; some would be, if they wrapped round.
func minutes() []int {
	return []int{0, 1, 2, 65535, 65536, 1 << 19, lastMinute - 1, lastMinute}
}

func noMinutes() []int {
	return []int{-1, end, -2, end + 1, -end, 1<<32 + 1, -1<<32 + 1, math.MinInt, math.MinInt + 1, math.MaxInt - 1, math.MaxInt}
}

func seqs() []int { return []int{0, 1, 255, 256, 32768, lastSeq - 1, lastSeq} }

func noSeqs() []int {
	return []int{-1, 65536, -2, 65537, -65535, 1<<32 + 1, -1<<32 + 1, math.MinInt, math.MinInt + 1, math.MaxInt}
}

// dice tell numbers that look like any, the same in each run.
type dice uint64

func (d *dice) below(n int) int {
	*d = *d*6364136223846793005 + 1442695040888963407
	x := uint64(*d^*d>>31) * 0x9e3779b97f4a7c15
	return int((x >> 1) % uint64(n))
}

// few are marks close to one another, some of the same Minute and Seq.
func (d *dice) few(n int) []api.Mark {
	l := []api.Mark{}
	for range n {
		l = append(l, mark(d.below(30), d.below(3), d.below(2) == 0))
	}
	return l
}

// far are marks of all minutes and seqs.
func (d *dice) far(n int) []api.Mark {
	l := []api.Mark{}
	for range n {
		l = append(l, mark(d.below(end), d.below(lastSeq+1), d.below(2) == 0))
	}
	return l
}

// shuffled are the same marks in another order.
func (d *dice) shuffled(l []api.Mark) []api.Mark {
	l = slices.Clone(l)
	for i := len(l) - 1; i > 0; i-- {
		j := d.below(i + 1)
		l[i], l[j] = l[j], l[i]
	}
	return l
}

// orders are all orders of marks.
func orders(l []api.Mark) (all [][]api.Mark) {
	if len(l) == 0 {
		return [][]api.Mark{nil}
	}
	for i := range l {
		for _, rest := range orders(slices.Concat(l[:i], l[i+1:])) {
			all = append(all, append([]api.Mark{l[i]}, rest...))
		}
	}
	return all
}

// words is a book by the words: its marks stand as they came, and all of them are gone through each time.
type words struct{ marks []api.Mark }

func (w *words) put(m api.Mark) bool {
	for i, other := range w.marks {
		if other.Minute == m.Minute && other.Seq == m.Seq {
			w.marks[i].Open = other.Open || m.Open
			return m.Open && !other.Open
		}
	}
	w.marks = append(w.marks, m)
	return true
}

func (w *words) open(minute int) bool {
	last, there := api.Mark{}, false
	for _, m := range w.marks {
		if m.Minute <= minute && (!there || m.Minute > last.Minute || m.Minute == last.Minute && m.Seq > last.Seq) {
			last, there = m, true
		}
	}
	return there && last.Open
}

// all takes the least that is left each time.
func (w *words) all() (l []api.Mark) {
	for left := slices.Clone(w.marks); len(left) > 0; {
		least := 0
		for i, m := range left {
			if m.Minute*65536+m.Seq < left[least].Minute*65536+left[least].Seq {
				least = i
			}
		}
		l = append(l, left[least])
		left = slices.Delete(left, least, least+1)
	}
	return l
}

// runs goes through all minutes up to now, one by one.
func (w *words) runs(now int) (l []api.Run) {
	from := -1
	for minute := 0; minute < min(now, end); minute++ {
		open := w.open(minute)
		if open && from < 0 {
			from = minute
		}
		if !open && from >= 0 {
			l, from = append(l, run(from, minute)), -1
		}
	}
	if from >= 0 {
		l = append(l, run(from, min(now, end)))
	}
	return l
}

func (w *words) alarms(ajar, now int) (l []api.Run) {
	for _, r := range w.runs(now) {
		if r.To-r.From > ajar {
			l = append(l, r)
		}
	}
	return l
}

// asked are minutes that tell books apart: about each mark, at the ends, and beyond all.
func (w *words) asked() []int {
	l := []int{math.MinInt, math.MinInt + 1, -1 << 40, -2, -1, 0, 1, lastMinute - 1, lastMinute, end, end + 1, 1 << 40, math.MaxInt - 1, math.MaxInt}
	for _, m := range w.marks {
		l = append(l, m.Minute-1, m.Minute, m.Minute+1)
	}
	slices.Sort(l)
	return slices.Compact(l)
}

// made is a book in which marks that may be were put.
func made(t *testing.T, l ...api.Mark) *door.Book {
	t.Helper()
	b := door.New()
	for _, m := range l {
		if _, e := b.Put(m); e != api.OK {
			t.Fatalf("Put(%v): error %d", m, e)
		}
	}
	return b
}

// told is made, and the same by the words.
func told(t *testing.T, l ...api.Mark) (*door.Book, *words) {
	t.Helper()
	w := &words{}
	for _, m := range l {
		w.put(m)
	}
	return made(t, l...), w
}

func wantPut(t *testing.T, b *door.Book, m api.Mark, want bool) {
	t.Helper()
	if got, e := b.Put(m); e != api.OK || got != want {
		t.Fatalf("Put(%v): %t, error %d, not %t", m, got, e, want)
	}
}

func wantOpen(t *testing.T, b *door.Book, minute int, want bool) {
	t.Helper()
	if got := b.Open(minute); got != want {
		t.Fatalf("Open(%d): %t, not %t", minute, got, want)
	}
}

func wantAll(t *testing.T, b *door.Book, want ...api.Mark) {
	t.Helper()
	if got := b.All(); !slices.Equal(got, want) {
		t.Fatalf("All: %v, not %v", got, want)
	}
}

func wantRuns(t *testing.T, b *door.Book, now int, want ...api.Run) {
	t.Helper()
	if got := b.Runs(now); !slices.Equal(got, want) {
		t.Fatalf("Runs(%d): %v, not %v", now, got, want)
	}
}

func wantAlarms(t *testing.T, b *door.Book, ajar, now int, want ...api.Run) {
	t.Helper()
	if got := b.Alarms(ajar, now); !slices.Equal(got, want) {
		t.Fatalf("Alarms(%d, %d): %v, not %v", ajar, now, got, want)
	}
}

// wantWords wants a book to have, and the door to be, what they are by the words.
func wantWords(t *testing.T, b *door.Book, w *words) {
	t.Helper()
	wantAll(t, b, w.all()...)
	for _, minute := range w.asked() {
		wantOpen(t, b, minute, w.open(minute))
	}
}

// wantSame wants two books to have, and to tell, the same.
func wantSame(t *testing.T, a, b *door.Book, w *words) {
	t.Helper()
	wantAll(t, a, b.All()...)
	for _, minute := range w.asked() {
		wantOpen(t, a, minute, b.Open(minute))
		wantRuns(t, a, minute, b.Runs(minute)...)
		wantAlarms(t, a, 3, minute, b.Alarms(3, minute)...)
	}
}

// P8.1, B1: a book without marks has none, and its door is never open.
func TestWithoutMarks(t *testing.T) {
	b := door.New()
	if b == nil {
		t.Fatal("New: nil")
	}
	wantAll(t, b)
	for _, n := range slices.Concat(minutes(), noMinutes()) {
		wantOpen(t, b, n, false)
		wantRuns(t, b, n)
		for _, ajar := range slices.Concat(minutes(), noMinutes()) {
			wantAlarms(t, b, ajar, n)
		}
	}
	other := door.New()
	wantPut(t, other, opened(3, 0), true)
	wantAll(t, b)
	wantOpen(t, b, 3, false)
}

// P8.1, B1, rule 8: a nil book.
func TestNil(t *testing.T) {
	var b *door.Book
	for _, n := range slices.Concat(minutes(), noMinutes()) {
		for _, m := range []api.Mark{opened(n, 0), closed(n, 0), opened(0, n), closed(0, n)} {
			if changed, e := b.Put(m); changed || e != api.ErrArg {
				t.Errorf("Put(%v) of nil: %t, error %d", m, changed, e)
			}
		}
		wantOpen(t, b, n, false)
		wantRuns(t, b, n)
		for _, ajar := range slices.Concat(minutes(), noMinutes()) {
			wantAlarms(t, b, ajar, n)
		}
	}
	wantAll(t, b)
}

// P8.1, B1: a mark that may be is put, and told just as it is.
func TestRightMarks(t *testing.T) {
	for _, minute := range minutes() {
		for _, seq := range seqs() {
			for _, open := range []bool{false, true} {
				b, m := door.New(), mark(minute, seq, open)
				wantPut(t, b, m, true)
				wantWords(t, b, &words{[]api.Mark{m}})
				wantOpen(t, b, minute-1, false)
				wantOpen(t, b, minute, open)
				if open {
					wantRuns(t, b, end, run(minute, end))
					wantRuns(t, b, minute+1, run(minute, minute+1))
				} else {
					wantRuns(t, b, end)
				}
				wantRuns(t, b, minute)
			}
		}
	}
}

// wantWrong wants marks of a Minute and Seq to be such that may not be, and to change nothing.
func wantWrong(t *testing.T, b *door.Book, w *words, minute, seq int) {
	t.Helper()
	for _, open := range []bool{false, true} {
		if changed, e := b.Put(mark(minute, seq, open)); changed || e != api.ErrArg {
			t.Errorf("Put(%v): %t, error %d", mark(minute, seq, open), changed, e)
		}
		wantWords(t, b, w)
	}
}

// P8.1, B1, rule 3: a mark that may not be is an error, and changes nothing, whether something else is there or not.
func TestWrongMarks(t *testing.T) {
	for _, c := range []struct {
		there []api.Mark
		runs  []api.Run
	}{
		{nil, nil},
		{[]api.Mark{closed(0, 0), opened(9, 0), closed(9, lastSeq), opened(10, 1), closed(12, 0), opened(lastMinute, lastSeq)}, []api.Run{run(10, 12), run(lastMinute, end)}},
	} {
		b, w := told(t, c.there...)
		for _, minute := range noMinutes() {
			for _, seq := range slices.Concat(seqs(), noSeqs()) {
				wantWrong(t, b, w, minute, seq)
			}
		}
		for _, minute := range slices.Concat(minutes(), []int{9, 10, 12}) {
			for _, seq := range noSeqs() {
				wantWrong(t, b, w, minute, seq)
			}
		}
		wantRuns(t, b, math.MaxInt, c.runs...)
	}
}

// P8.1, B1: the document's example.
func TestExample(t *testing.T) {
	b := made(t, opened(5, 0), closed(12, 1))
	wantRuns(t, b, 100, run(5, 12))
	wantAlarms(t, b, 6, 100, run(5, 12))
	wantAlarms(t, b, 7, 100)
	for minute := range 20 {
		wantOpen(t, b, minute, 5 <= minute && minute < 12)
	}
}

// P8.1, B1: of one Minute the greatest Seq counts, whichever was put first, and whether it is open or not.
func TestSeqsOfOneMinute(t *testing.T) {
	for _, open := range [][2]bool{{false, false}, {false, true}, {true, false}, {true, true}} {
		for _, seq := range [][2]int{{0, 1}, {0, lastSeq}, {255, 256}, {lastSeq - 1, lastSeq}} {
			less, greater := mark(6, seq[0], open[0]), mark(6, seq[1], open[1])
			for _, l := range [][]api.Mark{{less, greater}, {greater, less}} {
				b := door.New()
				wantPut(t, b, l[0], true)
				wantOpen(t, b, 6, l[0].Open)
				wantPut(t, b, l[1], true)
				wantAll(t, b, less, greater)
				wantOpen(t, b, 5, false)
				wantOpen(t, b, 6, open[1])
				wantOpen(t, b, 7, open[1])
				if open[1] {
					wantRuns(t, b, 9, run(6, 9))
				} else {
					wantRuns(t, b, 9)
				}
			}
		}
	}
}

// P8.1, B1: a greater Seq of an earlier minute, or of one that is still to come, doesn't count.
func TestMinuteAheadOfSeq(t *testing.T) {
	b := made(t, opened(4, lastSeq), closed(6, 0), opened(8, lastSeq), closed(9, 7), opened(11, 6), closed(12, 5))
	for minute, want := range []bool{false, false, false, false, true, true, false, false, true, false, false, true, false, false} {
		wantOpen(t, b, minute, want)
	}
	wantAll(t, b, opened(4, lastSeq), closed(6, 0), opened(8, lastSeq), closed(9, 7), opened(11, 6), closed(12, 5))
	wantRuns(t, b, 20, run(4, 6), run(8, 9), run(11, 12))
}

// P8.1, B1: of two marks of the same Minute and Seq, one of them open, that is open, whichever came first, and how often each of them came.
func TestOpenStays(t *testing.T) {
	for _, at := range [][2]int{{0, 0}, {9, 4}, {lastMinute, lastSeq}} {
		o, c := opened(at[0], at[1]), closed(at[0], at[1])
		beside := []api.Mark{opened(8, 9), closed(9, 3), closed(10, 0)}
		want := &words{append(slices.Clone(beside), o)}
		for _, step := range []struct {
			marks   []api.Mark
			changed []bool
		}{
			{[]api.Mark{o, o, c, c, o}, []bool{true, false, false, false, false}},
			{[]api.Mark{c, c, o, o, c}, []bool{true, false, true, false, false}},
			{[]api.Mark{c, o, c, o}, []bool{true, true, false, false}},
			{[]api.Mark{o, c, o, c}, []bool{true, false, false, false}},
		} {
			b := made(t, beside...)
			for i, m := range step.marks {
				wantPut(t, b, m, step.changed[i])
			}
			wantWords(t, b, want)
			wantRuns(t, b, end, want.runs(end)...)
		}
		b := made(t, c, c)
		wantAll(t, b, c)
		wantOpen(t, b, at[0], false)
	}
}

// P8.1, B1: a mark that comes to stand ahead of all, in the middle, behind all, by its Minute or its Seq alone.
func TestPlaces(t *testing.T) {
	there := []api.Mark{opened(10, 5), closed(20, 5), opened(20, 7), closed(30, 5)}
	for _, c := range []struct{ minute, seq, place int }{
		{0, 0, 0}, {9, lastSeq, 0}, {10, 4, 0},
		{10, 6, 1}, {15, 0, 1}, {20, 4, 1},
		{20, 6, 2},
		{20, 8, 3}, {25, lastSeq, 3}, {30, 4, 3},
		{30, 6, 4}, {31, 0, 4}, {lastMinute, lastSeq, 4},
	} {
		for _, open := range []bool{false, true} {
			b, w := told(t, there...)
			m := mark(c.minute, c.seq, open)
			wantPut(t, b, m, true)
			wantAll(t, b, slices.Insert(slices.Clone(there), c.place, m)...)
			w.put(m)
			wantWords(t, b, w)
			wantRuns(t, b, 50, w.runs(50)...)
		}
	}
}

// P8.1, B1: the door below all marks, at one, between two, behind all, and at the ends of the minutes and beyond.
func TestOpen(t *testing.T) {
	b := made(t, opened(10, 1), closed(13, 1), opened(19, 1))
	for _, c := range []struct {
		minute int
		open   bool
	}{
		{math.MinInt, false}, {math.MinInt + 1, false}, {-1 << 40, false}, {-10, false}, {-1, false}, {0, false}, {9, false},
		{10, true}, {11, true}, {12, true}, {13, false}, {14, false}, {18, false}, {19, true}, {20, true},
		{lastMinute - 1, true}, {lastMinute, true}, {end, true}, {end + 1, true}, {1<<32 + 14, true}, {math.MaxInt - 1, true}, {math.MaxInt, true},
	} {
		wantOpen(t, b, c.minute, c.open)
	}
	wantPut(t, b, closed(lastMinute, 0), true)
	for _, minute := range []int{lastMinute, end, end + 1, math.MaxInt} {
		wantOpen(t, b, minute, false)
	}
	wantOpen(t, b, lastMinute-1, true)
	wantPut(t, b, opened(0, 0), true)
	wantOpen(t, b, 0, true)
	wantOpen(t, b, -1, false)
	wantOpen(t, b, math.MinInt, false)
}

// P8.1, B1: runs up to a minute: below 0, at 0 and 1, about the marks, at the ends of the minutes and beyond.
func TestRunsUpTo(t *testing.T) {
	b := made(t, opened(0, 0), closed(2, 0), opened(10, 1), closed(13, 1), opened(19, 1))
	for _, c := range []struct {
		now  int
		runs []api.Run
	}{
		{math.MinInt, nil}, {math.MinInt + 1, nil}, {-1 << 40, nil}, {-2, nil}, {-1, nil}, {0, nil},
		{1, []api.Run{run(0, 1)}}, {2, []api.Run{run(0, 2)}}, {3, []api.Run{run(0, 2)}},
		{9, []api.Run{run(0, 2)}}, {10, []api.Run{run(0, 2)}}, {11, []api.Run{run(0, 2), run(10, 11)}},
		{12, []api.Run{run(0, 2), run(10, 12)}}, {13, []api.Run{run(0, 2), run(10, 13)}}, {14, []api.Run{run(0, 2), run(10, 13)}},
		{18, []api.Run{run(0, 2), run(10, 13)}}, {19, []api.Run{run(0, 2), run(10, 13)}}, {20, []api.Run{run(0, 2), run(10, 13), run(19, 20)}},
		{lastMinute, []api.Run{run(0, 2), run(10, 13), run(19, lastMinute)}},
	} {
		wantRuns(t, b, c.now, c.runs...)
	}
	for _, now := range []int{end, end + 1, 1<<32 + 5, 1 << 40, math.MaxInt - 1, math.MaxInt} {
		wantRuns(t, b, now, run(0, 2), run(10, 13), run(19, end))
	}
}

// P8.1, B1: marks of the last minute that there is.
func TestRunsOfTheLastMinute(t *testing.T) {
	b := made(t, opened(lastMinute, 0))
	wantRuns(t, b, lastMinute-1)
	wantRuns(t, b, lastMinute)
	for _, now := range []int{end, end + 1, math.MaxInt} {
		wantRuns(t, b, now, run(lastMinute, end))
	}
	b = made(t, opened(lastMinute-1, 0), closed(lastMinute, 0))
	wantRuns(t, b, lastMinute-1)
	for _, now := range []int{lastMinute, end, end + 1, math.MaxInt} {
		wantRuns(t, b, now, run(lastMinute-1, lastMinute))
	}
	b = made(t, opened(0, 0))
	wantRuns(t, b, lastMinute, run(0, lastMinute))
	wantRuns(t, b, end, run(0, end))
	wantRuns(t, b, math.MaxInt, run(0, end))
}

// P8.1, B1: what marks make of a door, up to minute 20.
func TestRuns(t *testing.T) {
	for name, c := range map[string]struct {
		marks []api.Mark
		runs  []api.Run
	}{
		"begins at 0":                    {[]api.Mark{opened(0, 0), closed(4, 0)}, []api.Run{run(0, 4)}},
		"ends just at now":               {[]api.Mark{opened(6, 0), closed(20, 0)}, []api.Run{run(6, 20)}},
		"no mark ends it":                {[]api.Mark{opened(6, 0)}, []api.Run{run(6, 20)}},
		"no mark ends it ahead of now":   {[]api.Mark{opened(6, 0), closed(21, 0)}, []api.Run{run(6, 20)}},
		"a single minute":                {[]api.Mark{opened(6, 0), closed(7, 0)}, []api.Run{run(6, 7)}},
		"the first minute alone":         {[]api.Mark{opened(0, 0), closed(1, 0)}, []api.Run{run(0, 1)}},
		"the last one ahead of now":      {[]api.Mark{opened(19, 0), closed(20, 0)}, []api.Run{run(19, 20)}},
		"opened just at now":             {[]api.Mark{opened(20, 0)}, nil},
		"opened behind now":              {[]api.Mark{opened(21, 0)}, nil},
		"never opened":                   {[]api.Mark{closed(0, 0), closed(6, 0)}, nil},
		"closed first":                   {[]api.Mark{closed(2, 0), opened(6, 0), closed(8, 0)}, []api.Run{run(6, 8)}},
		"opened again while open":        {[]api.Mark{opened(6, 0), opened(6, 1), opened(7, 0), opened(9, 3), closed(11, 0)}, []api.Run{run(6, 11)}},
		"closed again while closed":      {[]api.Mark{opened(6, 0), closed(8, 0), closed(8, 1), closed(9, 0), opened(12, 0)}, []api.Run{run(6, 8), run(12, 20)}},
		"a single minute between":        {[]api.Mark{opened(6, 0), closed(8, 0), opened(9, 0), closed(12, 0)}, []api.Run{run(6, 8), run(9, 12)}},
		"each second minute":             {[]api.Mark{opened(1, 0), closed(2, 0), opened(3, 0), closed(4, 0), opened(5, 0), closed(6, 0)}, []api.Run{run(1, 2), run(3, 4), run(5, 6)}},
		"opened and closed in a minute":  {[]api.Mark{opened(6, 0), closed(6, 1)}, nil},
		"closed and opened in a minute":  {[]api.Mark{closed(6, 0), opened(6, 1)}, []api.Run{run(6, 20)}},
		"so several times, closed":       {[]api.Mark{opened(6, 0), closed(6, 1), opened(6, 2), closed(6, 3), opened(6, 4), closed(6, 5)}, nil},
		"so several times, open":         {[]api.Mark{opened(6, 0), closed(6, 1), opened(6, 2), closed(6, 3), opened(6, 4), closed(8, 0)}, []api.Run{run(6, 8)}},
		"so while it is open":            {[]api.Mark{opened(4, 0), closed(6, 0), opened(6, 1), closed(6, 2), opened(6, 3), closed(8, 0)}, []api.Run{run(4, 8)}},
		"so while it is closed":          {[]api.Mark{opened(4, 0), closed(5, 0), opened(6, 1), closed(6, 2), opened(6, 3), closed(6, 4), opened(8, 0)}, []api.Run{run(4, 5), run(8, 20)}},
		"closed in the minute of it all": {[]api.Mark{opened(4, 0), opened(6, 0), closed(6, 1), opened(6, 2), closed(6, 3)}, []api.Run{run(4, 6)}},
		"so in the last one ahead of it": {[]api.Mark{opened(19, 0), closed(19, 1), opened(19, 2), closed(20, 0)}, []api.Run{run(19, 20)}},
		"so in the first one":            {[]api.Mark{opened(0, 0), closed(0, 1), opened(0, 2), closed(0, 3), opened(2, 0), closed(3, 0)}, []api.Run{run(2, 3)}},
	} {
		t.Run(name, func(t *testing.T) {
			for _, l := range orders(c.marks) {
				wantRuns(t, made(t, l...), 20, c.runs...)
			}
		})
	}
}

// P8.1, B1: alarms are runs of more minutes than ajar, up to now.
func TestAlarms(t *testing.T) {
	one, three, seven, goesOn := run(0, 1), run(4, 7), run(10, 17), run(30, 35)
	b := made(t, opened(0, 0), closed(1, 0), opened(4, 0), closed(7, 0), opened(10, 0), closed(17, 0), opened(30, 0))
	for _, c := range []struct {
		ajar   int
		alarms []api.Run
	}{
		{math.MinInt, []api.Run{one, three, seven, goesOn}}, {math.MinInt + 1, []api.Run{one, three, seven, goesOn}},
		{-1 << 32, []api.Run{one, three, seven, goesOn}}, {-1, []api.Run{one, three, seven, goesOn}}, {0, []api.Run{one, three, seven, goesOn}},
		{1, []api.Run{three, seven, goesOn}}, {2, []api.Run{three, seven, goesOn}}, {3, []api.Run{seven, goesOn}}, {4, []api.Run{seven, goesOn}},
		{5, []api.Run{seven}}, {6, []api.Run{seven}}, {7, nil}, {8, nil},
		{end, nil}, {1 << 32, nil}, {math.MaxInt - 1, nil}, {math.MaxInt, nil},
	} {
		wantAlarms(t, b, c.ajar, 35, c.alarms...)
	}
	wantAlarms(t, b, 5, 36, seven, run(30, 36))
	wantAlarms(t, b, 5, 16, run(10, 16))
	wantAlarms(t, b, 5, 15)
	wantAlarms(t, b, -1, 0)
	wantAlarms(t, b, math.MinInt, math.MinInt)
	wantAlarms(t, b, math.MaxInt, math.MaxInt)
	for _, now := range []int{end, end + 1, math.MaxInt} {
		wantAlarms(t, b, 7, now, run(30, end))
		wantAlarms(t, b, end-31, now, run(30, end))
		wantAlarms(t, b, end-30, now)
	}
}

// P8.1, B1: the longest run that there is.
func TestLongestAlarm(t *testing.T) {
	b := made(t, opened(0, 0))
	for _, now := range []int{end, end + 1, math.MaxInt} {
		wantAlarms(t, b, lastMinute, now, run(0, end))
		wantAlarms(t, b, end, now)
		wantAlarms(t, b, math.MinInt, now, run(0, end))
	}
	wantAlarms(t, b, lastMinute-1, lastMinute, run(0, lastMinute))
	wantAlarms(t, b, lastMinute, lastMinute)
}

// P8.1, B1: what a book has, and tells, behind each mark that is put.
func TestStepByStep(t *testing.T) {
	for number := range 60 {
		d := dice(number)
		for _, l := range [][]api.Mark{d.few(30), d.far(20)} {
			b, w := told(t)
			for _, m := range l {
				wantPut(t, b, m, w.put(m))
				wantWords(t, b, w)
			}
			for _, m := range l {
				wantPut(t, b, m, false)
			}
			wantWords(t, b, w)
		}
	}
}

// P8.2: all orders of marks, each put twice, lead to the same book.
func TestAllOrders(t *testing.T) {
	for _, l := range [][]api.Mark{
		{opened(5, 1), closed(5, 2), opened(7, 0), closed(4, 9), closed(20, 0)},
		{opened(5, 1), closed(5, 1), closed(5, 2), opened(6, 1), closed(6, 1)},
		{closed(0, 0), opened(0, 0), opened(lastMinute, lastSeq), closed(lastMinute, lastSeq), closed(lastMinute, 0)},
	} {
		first, w := told(t, l...)
		wantWords(t, first, w)
		for _, order := range orders(l) {
			wantSame(t, made(t, order...), first, w)
			wantSame(t, made(t, slices.Concat(order, order)...), first, w)
			wantSame(t, made(t, slices.Concat(order, l)...), first, w)
		}
	}
}

// P8.2: many marks, in some orders, each as often as one likes.
func TestManyOrders(t *testing.T) {
	for number := range 6 {
		d := dice(number)
		for _, l := range [][]api.Mark{d.few(60), d.far(60), slices.Concat(d.few(20), d.far(20))} {
			first, w := told(t, l...)
			wantWords(t, first, w)
			slices.Reverse(l)
			wantSame(t, made(t, l...), first, w)
			for i := range 6 {
				wantSame(t, made(t, d.shuffled(l)...), first, w)
				wantSame(t, made(t, d.shuffled(slices.Concat(l, l))...), first, w)
				wantSame(t, made(t, d.shuffled(slices.Concat(l, l[i:], l[2*i:]))...), first, w)
			}
		}
	}
}

// P8.2: what was asked between, and marks that may not be, make no difference.
func TestAskedBetween(t *testing.T) {
	for number := range 12 {
		d := dice(number)
		l := d.few(40)
		quiet, w := told(t, l...)
		asked := door.New()
		for i, m := range l {
			asked.Put(m)
			asked.Put(opened(-1, i))
			asked.Put(opened(i, lastSeq+1))
			asked.All()
			asked.Open(i)
			asked.Runs(i)
			asked.Alarms(i, 40-i)
		}
		wantSame(t, asked, quiet, w)
	}
}

// P8.2: more marks than a few, from the one end to the other, backwards, and in disorder.
func TestMany(t *testing.T) {
	l, runs := []api.Mark{}, []api.Run{}
	for i := range 1 << 13 {
		l = append(l, opened(128*i, 7*i%65536), closed(128*i+1+i%127, i%65536))
		runs = append(runs, run(128*i, 128*i+1+i%127))
	}
	backwards := slices.Clone(l)
	slices.Reverse(backwards)
	d := dice(1)
	for _, order := range [][]api.Mark{l, backwards, d.shuffled(l), d.shuffled(slices.Concat(l, l))} {
		b := made(t, order...)
		wantAll(t, b, l...)
		wantRuns(t, b, end, runs...)
		wantRuns(t, b, 128*1000, runs[:1000]...)
		wantAlarms(t, b, 0, end, runs...)
		for i := 0; i < len(runs); i += 100 {
			wantOpen(t, b, runs[i].From-1, false)
			wantOpen(t, b, runs[i].From, true)
			wantOpen(t, b, runs[i].To-1, true)
			wantOpen(t, b, runs[i].To, false)
		}
	}
}

// P8.2: all seqs of one minute, of which the greatest counts.
func TestAllSeqs(t *testing.T) {
	for _, open := range []bool{false, true} {
		l := []api.Mark{}
		for seq := range lastSeq + 1 {
			l = append(l, mark(77, seq, seq%2 == 0))
		}
		l[lastSeq].Open = open
		d := dice(3)
		for _, order := range [][]api.Mark{l, d.shuffled(l)} {
			b := made(t, order...)
			wantAll(t, b, l...)
			wantOpen(t, b, 76, false)
			wantOpen(t, b, 77, open)
			if open {
				wantRuns(t, b, 80, run(77, 80))
			} else {
				wantRuns(t, b, 80)
			}
		}
	}
}

// P8.1, P8.3: runs and alarms of many books, up to each minute, are those that are reckoned minute by minute.
func TestRunsByTheWords(t *testing.T) {
	for number := range 200 {
		d := dice(number)
		b, w := told(t, d.few(1+number%40)...)
		for now := -2; now < 36; now++ {
			wantRuns(t, b, now, w.runs(now)...)
			for ajar := -1; ajar < 8; ajar++ {
				wantAlarms(t, b, ajar, now, w.alarms(ajar, now)...)
			}
		}
	}
}

// P8.1, P8.3: likewise of all minutes that there are.
func TestAllMinutesByTheWords(t *testing.T) {
	for number := range 6 {
		d := dice(number)
		b, w := told(t, slices.Concat(d.far(8), d.few(4))...)
		runs := w.runs(end)
		wantRuns(t, b, end, runs...)
		wantRuns(t, b, math.MaxInt, runs...)
		now := d.below(end)
		wantRuns(t, b, now, w.runs(now)...)
		for _, ajar := range []int{-1, 0, 1, 1000, 100000, lastMinute} {
			wantAlarms(t, b, ajar, end, w.alarms(ajar, end)...)
		}
	}
}

// P8.3: a minute up to now is in a run just if the door is open at it; runs have minutes, rise, and do not touch.
func TestMinutesOfRuns(t *testing.T) {
	told := 0
	for number := range 300 {
		d := dice(number)
		b := made(t, d.few(1+number%30)...)
		now := d.below(40)
		runs := b.Runs(now)
		for i, r := range runs {
			if r.From < 0 || r.From >= r.To || r.To > now || i > 0 && runs[i-1].To >= r.From {
				t.Fatalf("Runs(%d): %v", now, runs)
			}
		}
		for minute := range now {
			in := slices.ContainsFunc(runs, func(r api.Run) bool { return r.From <= minute && minute < r.To })
			wantOpen(t, b, minute, in)
		}
		told += len(runs)
	}
	if told < 300 {
		t.Errorf("just %d runs", told)
	}
}

// Rule 4: the lists that are answered are new: spoilt, and written behind their length, they change neither the book nor another answer.
func TestAnswersAreNew(t *testing.T) {
	for n := range 40 {
		d := dice(n)
		b, w := told(t, d.few(n)...)
		marks, runs, alarms := w.all(), w.runs(40), w.alarms(1, 40)
		for range 2 {
			all, some, loud := b.All(), b.Runs(40), b.Alarms(1, 40)
			spoilMarks(b.All())
			spoilRuns(b.Runs(40))
			spoilRuns(b.Alarms(1, 40))
			spoilRuns(b.Runs(20))
			if !slices.Equal(all, marks) || !slices.Equal(some, runs) || !slices.Equal(loud, alarms) {
				t.Errorf("another answer was changed: %v, %v, %v", all, some, loud)
			}
			wantWords(t, b, w)
			wantRuns(t, b, 40, runs...)
			wantAlarms(t, b, 1, 40, alarms...)
		}
		spoilMarks(b.All())
		wantPut(t, b, closed(lastMinute, 0), true)
		w.put(closed(lastMinute, 0))
		wantWords(t, b, w)
	}
}

func spoilMarks(l []api.Mark) {
	_ = append(l, opened(1, 1))
	l = l[:cap(l)]
	for i := range l {
		l[i] = opened(-1, -1)
	}
}

func spoilRuns(l []api.Run) {
	_ = append(l, run(1, 2))
	l = l[:cap(l)]
	for i := range l {
		l[i] = run(-1, -1)
	}
}

// Rule 4: a mark that is handed in is not kept: another one in its place changes nothing, and it isn't written into.
func TestPutKeepsNothing(t *testing.T) {
	l := []api.Mark{opened(3, 0), closed(3, 0), closed(3, 1), closed(1, 0), opened(1, 0)}
	was := slices.Clone(l)
	b, w := told(t)
	for i := range l {
		b.Put(l[i])
		w.put(was[i])
	}
	if !slices.Equal(l, was) {
		t.Errorf("marks that were handed in became %v", l)
	}
	clear(l)
	wantWords(t, b, w)
}

// Two books have nothing of one another.
func TestApart(t *testing.T) {
	a, b := made(t, opened(3, 0)), made(t, closed(3, 0), opened(5, 0))
	wantPut(t, a, closed(4, 0), true)
	wantPut(t, b, closed(9, 0), true)
	wantAll(t, a, opened(3, 0), closed(4, 0))
	wantAll(t, b, closed(3, 0), opened(5, 0), closed(9, 0))
	wantRuns(t, a, 20, run(3, 4))
	wantRuns(t, b, 20, run(5, 9))
}

// P1, P2: each call ends, at whatever it is given, and answers the same again, also where the same marks came in other books.
func TestAgain(t *testing.T) {
	edges := slices.Concat(minutes(), noMinutes(), seqs(), noSeqs())
	ask := func() (told []string) {
		b := door.New()
		for i, minute := range edges {
			for j, seq := range edges {
				changed, e := b.Put(mark(minute, seq, (i+j)%3 == 0))
				told = append(told, fmt.Sprint(changed, e))
			}
		}
		for _, n := range edges {
			told = append(told, fmt.Sprint(b.Open(n), b.All(), b.Runs(n)))
			for _, now := range edges {
				told = append(told, fmt.Sprint(b.Alarms(n, now)))
			}
		}
		return told
	}
	first := ask()
	for range 3 {
		if !slices.Equal(ask(), first) {
			t.Fatal("asked again, another answer")
		}
	}
}
