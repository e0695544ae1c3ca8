package stays_test

import (
	"fmt"
	"math"
	"slices"
	"testing"

	"hoarfrost/api"
	"hoarfrost/stays"
)

// on is a stay that goes on; stay is one that ended.
func on(zone, from int) api.Stay { return api.Stay{Zone: zone, From: from, To: -1} }

func stay(zone, from, to int) api.Stay { return api.Stay{Zone: zone, From: from, To: to} }

func list(l ...api.Stay) []api.Stay { return l }

// The numbers that tell stays apart, or are at an end; some would be others, if they wrapped round.
func edges() []int {
	return []int{math.MinInt, math.MinInt + 1, -1 << 40, -2, -1, 0, 1, 2, 1<<20 - 1, 1 << 20, 1<<32 + 1, 1 << 62, math.MaxInt - 1, math.MaxInt}
}

// may are stays that may be, of all kinds.
func may() [][]api.Stay {
	return [][]api.Stay{
		nil,
		{},
		{on(1, 0)},
		{on(3, 5)},
		{stay(1, 0, 1)},
		{stay(2, 4, 9)},
		{stay(1, 2, 5), on(2, 5)},
		{stay(1, 2, 5), stay(2, 5, 6)},
		{stay(7, 0, 3), stay(7, 3, 8), on(7, 8)},
		{stay(1, 3, 4), stay(2, 4, 5), stay(1, 5, 9), stay(3, 9, 20)},
		{stay(1, 3, 4), stay(2, 4, 5), stay(1, 5, 9), on(3, 9)},
		{stay(16, 10, 1<<20-1), stay(17, 1<<20-1, 1<<20), on(math.MaxInt, 1<<20)},
		{on(1, math.MaxInt)},
		{on(1, math.MaxInt-1)},
		{stay(1, 0, math.MaxInt)},
		{stay(1, math.MaxInt-1, math.MaxInt)},
		{stay(1, 0, math.MaxInt-1), stay(2, math.MaxInt-1, math.MaxInt)},
		{stay(1, 0, math.MaxInt-1), on(2, math.MaxInt-1)},
		{stay(1, 1, math.MaxInt), on(2, math.MaxInt)},
	}
}

// mayNot are stays that may not be, each one for one cause.
func mayNot() [][]api.Stay {
	return [][]api.Stay{
		{on(0, 5)}, {on(-1, 5)}, {on(math.MinInt, 5)}, {stay(0, 2, 5)}, {stay(-1, 2, 5)},
		{on(1, -1)}, {on(1, math.MinInt)}, {stay(1, -1, 5)}, {stay(1, -1, 0)}, {stay(1, -3, -2)}, {stay(1, math.MinInt, 4)},
		{stay(1, 5, 5)}, {stay(1, 5, 4)}, {stay(1, 0, 0)}, {stay(1, 5, -2)}, {stay(1, 0, -2)}, {stay(1, 5, math.MinInt)}, {stay(1, math.MaxInt, math.MaxInt)}, {stay(1, math.MaxInt, math.MaxInt-1)},
		{on(1, 0), on(2, 5)}, {on(1, 0), stay(2, 5, 6)}, {on(1, 0), on(1, 0)}, {on(1, 3), on(2, -1)}, {on(1, 0), stay(2, -1, 6)},
		{stay(1, 0, 5), on(2, 6)}, {stay(1, 0, 5), on(2, 4)}, {stay(1, 0, 5), on(2, 0)}, {stay(1, 0, 5), stay(2, 6, 7)}, {stay(1, 0, 5), stay(2, 4, 7)}, {stay(1, 0, 5), stay(1, 0, 5)}, {stay(1, 5, 6), stay(2, 4, 5)},
		{stay(0, 0, 5), on(2, 5)}, {stay(1, -1, 5), on(2, 5)}, {stay(1, 5, 5), on(2, 5)}, {stay(1, 6, 5), on(2, 5)}, {stay(1, 0, 5), on(0, 5)}, {stay(1, 0, 5), stay(2, 5, 5)}, {stay(1, 0, 5), stay(2, 5, 4)}, {stay(1, 0, 5), stay(2, 5, -2)},
		{stay(1, 0, 5), on(2, 5), stay(3, 5, 6)}, {stay(1, 0, 5), on(2, 5), on(3, 6)}, {stay(1, 0, 5), stay(2, 5, 6), on(3, 7)}, {stay(1, 0, 5), stay(2, 5, 6), on(3, 5)}, {stay(1, 0, 5), stay(2, 6, 7), on(3, 7)},
		{stay(1, 0, 5), stay(0, 5, 6), on(3, 6)}, {stay(1, 0, 5), stay(-1, 5, 6), on(3, 6)}, {stay(1, 0, 5), stay(2, 5, 6), on(-1, 6)},
		{stay(1, 0, math.MaxInt), stay(2, math.MaxInt, math.MinInt)}, {stay(1, 0, math.MaxInt), stay(2, math.MaxInt, math.MaxInt)},
	}
}

// asked are minutes that tell stays apart: about each From and To, and the edges.
func asked(l []api.Stay) []int {
	all := edges()
	for _, s := range l {
		for _, n := range []int{s.From, s.To} {
			// Those at the ends may wrap round here: any minutes are as good.
			all = append(all, n-1, n, n+1)
		}
	}
	slices.Sort(all)
	return slices.Compact(all)
}

// The words: each of these reckons what a call answers, step by step, as its words say it.

func rightByWords(l []api.Stay) bool {
	for i, s := range l {
		if s.Zone < 1 || s.From < 0 {
			return false
		}
		if i > 0 && s.From != l[i-1].To {
			return false
		}
		if i == len(l)-1 && s.To == -1 {
			continue
		}
		if s.To <= s.From {
			return false
		}
	}
	return true
}

func goesByWords(l []api.Stay, now int) bool {
	if !rightByWords(l) || now < 0 {
		return false
	}
	if len(l) == 0 {
		return true
	}
	last := l[len(l)-1]
	if now < last.From {
		return false
	}
	return last.To == -1 || last.To == now
}

func endedByWords(l []api.Stay, now int) []api.Stay {
	l = append([]api.Stay{}, l...)
	last := len(l) - 1
	if last >= 0 && l[last].To == -1 {
		if l[last].From == now {
			return l[:last]
		}
		l[last].To = now
	}
	return l
}

func enterByWords(l []api.Stay, zone, now int) ([]api.Stay, api.Errno) {
	if !goesByWords(l, now) || zone < 1 {
		return nil, api.ErrArg
	}
	l = endedByWords(l, now)
	last := len(l) - 1
	if last >= 0 && l[last].Zone == zone {
		l[last].To = -1
		return l, api.OK
	}
	return append(l, on(zone, now)), api.OK
}

func leaveByWords(l []api.Stay, now int) ([]api.Stay, api.Errno) {
	if !goesByWords(l, now) || len(l) == 0 || l[len(l)-1].To != -1 {
		return nil, api.ErrArg
	}
	return endedByWords(l, now), api.OK
}

func zoneByWords(l []api.Stay, minute int) int {
	zone := 0
	for _, s := range l {
		if rightByWords(l) && s.From <= minute && (s.To == -1 || minute < s.To) {
			zone = s.Zone
		}
	}
	return zone
}

func uptoByWords(l []api.Stay, minute int) (upto []api.Stay) {
	for _, s := range l {
		if rightByWords(l) && s.From < minute {
			upto = append(upto, s)
		}
	}
	if last := len(upto) - 1; last >= 0 && (upto[last].To == -1 || upto[last].To > minute) {
		upto[last].To = minute
	}
	return upto
}

// minutesByWords is the last one's To less the first one's From, as there is none between that no stay has.
func minutesByWords(l []api.Stay, minute int) int {
	upto := uptoByWords(l, minute)
	if len(upto) == 0 {
		return 0
	}
	return upto[len(upto)-1].To - upto[0].From
}

func wantRight(t *testing.T, l []api.Stay, want bool) {
	t.Helper()
	if got := stays.Right(l); got != want {
		t.Fatalf("Right(%v): %t, not %t", l, got, want)
	}
}

func wantEnter(t *testing.T, l []api.Stay, zone, now int, want ...api.Stay) {
	t.Helper()
	if got, e := stays.Enter(l, zone, now); e != api.OK || !slices.Equal(got, want) {
		t.Fatalf("Enter(%v, %d, %d): %v, error %d, not %v", l, zone, now, got, e, want)
	}
}

func wantNoEnter(t *testing.T, l []api.Stay, zone, now int) {
	t.Helper()
	if got, e := stays.Enter(l, zone, now); e != api.ErrArg || len(got) != 0 {
		t.Fatalf("Enter(%v, %d, %d): %v, error %d", l, zone, now, got, e)
	}
}

func wantLeave(t *testing.T, l []api.Stay, now int, want ...api.Stay) {
	t.Helper()
	if got, e := stays.Leave(l, now); e != api.OK || !slices.Equal(got, want) {
		t.Fatalf("Leave(%v, %d): %v, error %d, not %v", l, now, got, e, want)
	}
}

func wantNoLeave(t *testing.T, l []api.Stay, now int) {
	t.Helper()
	if got, e := stays.Leave(l, now); e != api.ErrArg || len(got) != 0 {
		t.Fatalf("Leave(%v, %d): %v, error %d", l, now, got, e)
	}
}

func wantZone(t *testing.T, l []api.Stay, minute, want int) {
	t.Helper()
	if got := stays.Zone(l, minute); got != want {
		t.Fatalf("Zone(%v, %d): %d, not %d", l, minute, got, want)
	}
}

func wantUpto(t *testing.T, l []api.Stay, minute int, want ...api.Stay) {
	t.Helper()
	if got := stays.Upto(l, minute); !slices.Equal(got, want) {
		t.Fatalf("Upto(%v, %d): %v, not %v", l, minute, got, want)
	}
}

func wantMinutes(t *testing.T, l []api.Stay, minute, want int) {
	t.Helper()
	if got := stays.Minutes(l, minute); got != want {
		t.Fatalf("Minutes(%v, %d): %d, not %d", l, minute, got, want)
	}
}

func wantSame(t *testing.T, a, b []api.Stay, want bool) {
	t.Helper()
	if stays.Same(a, b) != want || stays.Same(b, a) != want {
		t.Fatalf("Same of %v and %v: not %t both ways", a, b, want)
	}
}

// wantTold wants all that is told of a minute to be what it is by the words.
func wantTold(t *testing.T, l []api.Stay, minute int) {
	t.Helper()
	wantZone(t, l, minute, zoneByWords(l, minute))
	wantUpto(t, l, minute, uptoByWords(l, minute)...)
	wantMinutes(t, l, minute, minutesByWords(l, minute))
}

// wantGone wants what comes of entering, or leaving, now to be what it is by the words.
func wantGone(t *testing.T, l []api.Stay, zone, now int) {
	t.Helper()
	if want, e := enterByWords(l, zone, now); e == api.OK {
		wantEnter(t, l, zone, now, want...)
		wantRight(t, want, true)
	} else {
		wantNoEnter(t, l, zone, now)
	}
	if want, e := leaveByWords(l, now); e == api.OK {
		wantLeave(t, l, now, want...)
		wantRight(t, want, true)
	} else {
		wantNoLeave(t, l, now)
	}
}

// P9.1, Y1: stays that may be, and that may not be.
func TestRight(t *testing.T) {
	for _, l := range may() {
		wantRight(t, l, true)
	}
	for _, l := range mayNot() {
		wantRight(t, l, false)
	}
}

// P9.1, Y1: each field of a single stay at its ends.
func TestRightOfOne(t *testing.T) {
	for _, n := range edges() {
		wantRight(t, list(on(n, 5)), n >= 1)
		wantRight(t, list(stay(n, 5, 6)), n >= 1)
		wantRight(t, list(on(1, n)), n >= 0)
		wantRight(t, list(stay(1, n, math.MaxInt)), n >= 0 && n < math.MaxInt)
		wantRight(t, list(stay(1, 0, n)), n == -1 || n > 0)
		wantRight(t, list(stay(1, 1, n)), n == -1 || n > 1)
		wantRight(t, list(stay(1, math.MaxInt-1, n)), n == -1 || n == math.MaxInt)
		wantRight(t, list(stay(1, math.MaxInt, n)), n == -1)
	}
	for from := range 20 {
		wantRight(t, list(stay(1, from, from-1)), from == 0) // which goes on
		wantRight(t, list(stay(1, from, from)), false)
		wantRight(t, list(stay(1, from, from+1)), true)
	}
}

// built tells of each list of stays that may be, of at most so many, of zones 1 and 2, and minutes 0 to 4, made from the one end to the other.
func built(most int, tell func(l []api.Stay)) {
	var longer func(l []api.Stay, from int)
	longer = func(l []api.Stay, from int) {
		if len(l) == most {
			return
		}
		for zone := 1; zone <= 2; zone++ {
			tell(append(slices.Clip(l), on(zone, from)))
			for to := from + 1; to <= 4; to++ {
				ended := append(slices.Clip(l), stay(zone, from, to))
				tell(ended)
				longer(ended, to)
			}
		}
	}
	tell(nil)
	for first := range 5 {
		longer(nil, first)
	}
}

// P9.1, Y1: of all lists of up to three stays of small numbers just those may be that can be made one behind the other.
func TestRightOfAllSmallLists(t *testing.T) {
	right := map[string]bool{}
	built(3, func(l []api.Stay) { right[fmt.Sprint(l)] = true })
	var singles []api.Stay
	for zone := -1; zone <= 2; zone++ {
		for from := -1; from <= 4; from++ {
			for to := -2; to <= 4; to++ {
				singles = append(singles, stay(zone, from, to))
			}
		}
	}
	found := 0
	tell := func(l ...api.Stay) {
		if !stays.Right(l) {
			return
		}
		if found++; !right[fmt.Sprint(l)] {
			t.Fatalf("Right(%v): true", l)
		}
	}
	tell()
	for _, a := range singles {
		tell(a)
		for _, b := range singles {
			tell(a, b)
			for _, c := range singles {
				tell(a, b, c)
			}
		}
	}
	if found != len(right) || found < 100 {
		t.Fatalf("%d lists may be, not %d", found, len(right))
	}
}

// P9.1, Y1: the first zone, another one, and the same again.
func TestEnter(t *testing.T) {
	wantEnter(t, nil, 3, 5, on(3, 5))
	wantEnter(t, list(), 1, 0, on(1, 0))
	wantEnter(t, list(on(3, 5)), 4, 9, stay(3, 5, 9), on(4, 9))
	wantEnter(t, list(stay(3, 5, 9), on(4, 9)), 3, 12, stay(3, 5, 9), stay(4, 9, 12), on(3, 12))
	wantEnter(t, list(on(3, 5)), 3, 5, on(3, 5))
	wantEnter(t, list(on(3, 5)), 3, 6, on(3, 5))
	wantEnter(t, list(on(3, 5)), 3, math.MaxInt, on(3, 5))
	wantEnter(t, list(stay(1, 2, 5), on(3, 5)), 3, 80, stay(1, 2, 5), on(3, 5))
	wantEnter(t, list(stay(3, 2, 5), on(3, 5)), 3, 80, stay(3, 2, 5), on(3, 5))
	wantEnter(t, nil, math.MaxInt, math.MaxInt, on(math.MaxInt, math.MaxInt))
}

// P9.1, Y1: what was in the last zone for no time was never there; what comes back into the zone ahead of it never left.
func TestEnterInNoTime(t *testing.T) {
	wantEnter(t, list(on(3, 5)), 4, 5, on(4, 5))
	wantEnter(t, list(stay(1, 2, 5), on(2, 5)), 3, 5, stay(1, 2, 5), on(3, 5))
	wantEnter(t, list(stay(1, 2, 5), on(2, 5)), 2, 5, stay(1, 2, 5), on(2, 5))
	wantEnter(t, list(stay(1, 2, 5), on(2, 5)), 1, 5, on(1, 2))
	wantEnter(t, list(stay(2, 0, 2), stay(1, 2, 5), on(2, 5)), 1, 5, stay(2, 0, 2), on(1, 2))
	wantEnter(t, list(stay(2, 0, 2), stay(1, 2, 5), on(3, 5)), 2, 5, stay(2, 0, 2), stay(1, 2, 5), on(2, 5))
	wantEnter(t, list(stay(1, 2, 5), on(1, 5)), 1, 5, on(1, 2))
	wantEnter(t, list(stay(1, 2, 5), on(2, 5)), 1, 6, stay(1, 2, 5), stay(2, 5, 6), on(1, 6))
	wantEnter(t, list(stay(1, 0, math.MaxInt), on(2, math.MaxInt)), 1, math.MaxInt, on(1, 0))
	wantEnter(t, list(on(2, math.MaxInt)), 1, math.MaxInt, on(1, math.MaxInt))
}

// P9.1, Y1, P9.2: through several zones at once, and back into the first one.
func TestThroughSeveralZones(t *testing.T) {
	l := list(stay(9, 1, 4), on(1, 4))
	for _, zone := range []int{2, 3, 2, 4, 1, 5} {
		var e api.Errno
		if l, e = stays.Enter(l, zone, 7); e != api.OK {
			t.Fatalf("Enter(%d): error %d", zone, e)
		}
		if zone == 1 {
			wantSame(t, l, list(stay(9, 1, 4), on(1, 4)), true)
		} else {
			wantSame(t, l, list(stay(9, 1, 4), stay(1, 4, 7), on(zone, 7)), true)
		}
	}
	wantLeave(t, l, 7, stay(9, 1, 4), stay(1, 4, 7))
	wantEnter(t, l, 1, 7, stay(9, 1, 4), on(1, 4))
	// Behind coming back the last one began ahead of that minute, so that it may go on from any since.
	l, _ = stays.Enter(l, 1, 7)
	wantEnter(t, l, 2, 5, stay(9, 1, 4), stay(1, 4, 5), on(2, 5))
	wantNoEnter(t, l, 2, 3)
}

// P9.1, Y1: what left, and comes again: at the very minute, into the same zone or another one, and at no other minute.
func TestEnterBehindLeaving(t *testing.T) {
	for _, l := range [][]api.Stay{{stay(3, 5, 9)}, {stay(4, 0, 5), stay(3, 5, 9)}} {
		ahead := l[:len(l)-1]
		wantEnter(t, l, 3, 9, append(slices.Clip(ahead), on(3, 5))...)
		wantEnter(t, l, 4, 9, append(slices.Clip(l), on(4, 9))...)
		for _, now := range append(edges(), 4, 5, 6, 8, 10, 11) {
			wantNoEnter(t, l, 3, now)
			wantNoEnter(t, l, 4, now)
			wantNoLeave(t, l, now)
		}
		wantNoLeave(t, l, 9)
	}
	wantEnter(t, list(stay(1, 0, math.MaxInt)), 1, math.MaxInt, on(1, 0))
	wantEnter(t, list(stay(1, 0, math.MaxInt)), 2, math.MaxInt, stay(1, 0, math.MaxInt), on(2, math.MaxInt))
	wantNoEnter(t, list(stay(1, 0, math.MaxInt)), 1, math.MaxInt-1)
	wantNoEnter(t, list(stay(1, 0, math.MaxInt)), 1, math.MinInt)
	wantNoEnter(t, list(stay(1, 0, math.MaxInt-1)), 1, math.MaxInt)
}

// P9.1, Y1: zones at their ends.
func TestEnterZones(t *testing.T) {
	for _, l := range [][]api.Stay{nil, {on(5, 3)}, {stay(5, 3, 4)}, {stay(5, 3, 4), on(6, 4)}} {
		for _, zone := range edges() {
			if zone < 1 {
				wantNoEnter(t, l, zone, 4)
				continue
			}
			want, _ := enterByWords(l, zone, 4)
			wantEnter(t, l, zone, 4, want...)
			if last := want[len(want)-1]; last != on(zone, 4) {
				t.Fatalf("Enter(%v, %d, 4): ends with %v", l, zone, last)
			}
		}
	}
}

// P9.1, Y1: minutes from nowhere on, and with a last one that goes on: from its From on, whatever comes.
func TestEnterMinutes(t *testing.T) {
	for _, now := range edges() {
		if now < 0 {
			wantNoEnter(t, nil, 1, now)
		} else {
			wantEnter(t, nil, 1, now, on(1, now))
		}
	}
	for _, from := range []int{0, 1, 2, 5, 1 << 20, math.MaxInt - 1, math.MaxInt} {
		l := list(on(1, from))
		for _, now := range asked(l) {
			switch {
			case now < from:
				wantNoEnter(t, l, 2, now)
				wantNoEnter(t, l, 1, now)
			case now == from:
				wantEnter(t, l, 2, now, on(2, now))
				wantEnter(t, l, 1, now, on(1, now))
			default:
				wantEnter(t, l, 2, now, stay(1, from, now), on(2, now))
				wantEnter(t, l, 1, now, on(1, from))
			}
		}
	}
}

// P9.1, Y1: leaving: at the minute at which the last one began, later, and earlier; where none goes on, and where there are none.
func TestLeave(t *testing.T) {
	wantLeave(t, list(on(3, 5)), 9, stay(3, 5, 9))
	wantLeave(t, list(on(3, 5)), 6, stay(3, 5, 6))
	wantLeave(t, list(on(3, 5)), 5)
	wantLeave(t, list(stay(1, 2, 5), on(3, 5)), 5, stay(1, 2, 5))
	wantLeave(t, list(stay(1, 2, 5), on(3, 5)), 6, stay(1, 2, 5), stay(3, 5, 6))
	wantLeave(t, list(stay(3, 2, 5), on(3, 5)), 6, stay(3, 2, 5), stay(3, 5, 6))
	wantLeave(t, list(on(3, 0)), 0)
	wantLeave(t, list(on(3, 0)), math.MaxInt, stay(3, 0, math.MaxInt))
	wantLeave(t, list(on(3, math.MaxInt)), math.MaxInt)
	wantLeave(t, list(on(3, math.MaxInt-1)), math.MaxInt, stay(3, math.MaxInt-1, math.MaxInt))
	for _, now := range append(edges(), 4) {
		wantNoLeave(t, nil, now)
		wantNoLeave(t, list(), now)
		if now < 5 {
			wantNoLeave(t, list(on(3, 5)), now)
			wantNoLeave(t, list(stay(1, 2, 5), on(3, 5)), now)
		}
		if now < math.MaxInt {
			wantNoLeave(t, list(on(3, math.MaxInt)), now)
		}
		wantNoLeave(t, list(stay(3, 0, math.MaxInt)), now)
	}
}

// P9.1, Y1: what may be, at all minutes about it, and what goes and comes then.
func TestMayByTheWords(t *testing.T) {
	for _, l := range may() {
		for _, now := range asked(l) {
			wantTold(t, l, now)
			for _, zone := range []int{math.MinInt, -1, 0, 1, 2, 3, 7, 16, math.MaxInt} {
				wantGone(t, l, zone, now)
			}
		}
	}
}

// P9.1, Y1: of stays that may not be nothing is told, and nothing comes, at any minute.
func TestMayNot(t *testing.T) {
	for _, l := range mayNot() {
		for _, minute := range asked(l) {
			wantZone(t, l, minute, 0)
			wantUpto(t, l, minute)
			wantMinutes(t, l, minute, 0)
			wantNoLeave(t, l, minute)
			for _, zone := range []int{-1, 0, 1, 2, 3} {
				wantNoEnter(t, l, zone, minute)
			}
		}
	}
}

// P9.1, Y1: of a few stays, minute by minute.
func TestTold(t *testing.T) {
	ended := list(stay(3, 2, 4), stay(5, 4, 5), stay(3, 5, 8))
	goes := list(stay(3, 2, 4), stay(5, 4, 5), on(3, 5))
	for minute, c := range []struct {
		zone, minutes int
		upto          []api.Stay
	}{
		{0, 0, nil},
		{0, 0, nil},
		{3, 0, nil},
		{3, 1, list(stay(3, 2, 3))},
		{5, 2, list(stay(3, 2, 4))},
		{3, 3, list(stay(3, 2, 4), stay(5, 4, 5))},
		{3, 4, list(stay(3, 2, 4), stay(5, 4, 5), stay(3, 5, 6))},
		{3, 5, list(stay(3, 2, 4), stay(5, 4, 5), stay(3, 5, 7))},
	} {
		for _, l := range [][]api.Stay{ended, goes} {
			wantZone(t, l, minute, c.zone)
			wantUpto(t, l, minute, c.upto...)
			wantMinutes(t, l, minute, c.minutes)
		}
	}
	for _, minute := range []int{8, 9, 10, 1 << 20, math.MaxInt - 1, math.MaxInt} {
		wantZone(t, ended, minute, 0)
		wantUpto(t, ended, minute, ended...)
		wantMinutes(t, ended, minute, 6)
		wantZone(t, goes, minute, 3)
		wantUpto(t, goes, minute, stay(3, 2, 4), stay(5, 4, 5), stay(3, 5, minute))
		wantMinutes(t, goes, minute, minute-2)
	}
	for _, minute := range []int{-1, -2, -1 << 40, math.MinInt + 1, math.MinInt} {
		for _, l := range [][]api.Stay{ended, goes, nil, {}} {
			wantZone(t, l, minute, 0)
			wantUpto(t, l, minute)
			wantMinutes(t, l, minute, 0)
		}
	}
}

// P9.1, Y1: stays at the greatest minutes that there are.
func TestToldOfTheGreatest(t *testing.T) {
	const last = math.MaxInt
	whole := list(stay(1, 0, last-1), stay(2, last-1, last))
	wantMinutes(t, whole, last, last)
	wantMinutes(t, whole, last-1, last-1)
	wantZone(t, whole, last-2, 1)
	wantZone(t, whole, last-1, 2)
	wantZone(t, whole, last, 0)
	wantUpto(t, whole, last-1, whole[0])
	wantUpto(t, whole, last, whole...)
	goes := list(stay(1, last-1, last), on(2, last))
	wantMinutes(t, goes, last, 1)
	wantMinutes(t, goes, last-1, 0)
	wantZone(t, goes, last-2, 0)
	wantZone(t, goes, last-1, 1)
	wantZone(t, goes, last, 2)
	wantUpto(t, goes, last, goes[0])
	wantMinutes(t, list(on(1, 0)), last, last)
	wantUpto(t, list(on(1, last-1)), last, stay(1, last-1, last))
	for _, l := range [][]api.Stay{whole, goes, {on(1, 0)}, {on(1, last)}} {
		wantUpto(t, l, math.MinInt)
		wantMinutes(t, l, math.MinInt, 0)
		wantZone(t, l, math.MinInt, 0)
	}
}

// P9.1, Y1: all small lists that may be, at all minutes: counted, and gone through, minute by minute.
func TestToldMinuteByMinute(t *testing.T) {
	told := 0
	built(4, func(l []api.Stay) {
		count := 0
		for minute := range 7 {
			wantTold(t, l, minute)
			wantMinutes(t, l, minute, count)
			upto := stays.Upto(l, minute)
			wantRight(t, upto, true)
			for other := -1; other < 8; other++ {
				want := 0
				if other < minute {
					want = zoneByWords(l, other)
				}
				wantZone(t, upto, other, want)
			}
			if zoneByWords(l, minute) > 0 {
				count++
			}
		}
		told++
	})
	if told < 300 {
		t.Errorf("just %d lists", told)
	}
}

// P9.1, P9.2: all small lists that may be, and whatever comes behind them.
func TestGoneByTheWords(t *testing.T) {
	built(4, func(l []api.Stay) {
		for now := -2; now < 7; now++ {
			for zone := -1; zone <= 3; zone++ {
				wantGone(t, l, zone, now)
			}
		}
	})
}

// P9.1, Y1: two lists are one, if they do not differ in a number, nor in their length; whether they may be or not.
func TestSame(t *testing.T) {
	wantSame(t, nil, nil, true)
	wantSame(t, nil, list(), true)
	wantSame(t, list(), list(), true)
	wantSame(t, nil, make([]api.Stay, 0, 5), true)
	for i, a := range slices.Concat(may(), mayNot()) {
		wantSame(t, a, slices.Clone(a), true)
		wantSame(t, a, append(make([]api.Stay, 0, 20), a...), true)
		for j, b := range slices.Concat(may(), mayNot()) {
			wantSame(t, a, b, i == j || len(a)+len(b) == 0)
		}
		wantSame(t, a, append(slices.Clip(a), stay(0, 0, 0)), false)
		wantSame(t, a, append(list(stay(0, 0, 0)), a...), false)
		for at := range a {
			wantSame(t, a, a[:at], false)
			wantSame(t, a, a[at+1:], false)
			for _, n := range []int{1, -1, 2, 1 << 32, math.MinInt} {
				zone, from, to := slices.Clone(a), slices.Clone(a), slices.Clone(a)
				zone[at].Zone += n
				from[at].From += n
				to[at].To += n
				for _, b := range [][]api.Stay{zone, from, to} {
					wantSame(t, a, b, false)
				}
			}
		}
	}
	wantSame(t, list(stay(1, 0, 2), stay(2, 2, 3)), list(stay(2, 2, 3), stay(1, 0, 2)), false)
	wantSame(t, make([]api.Stay, 3), make([]api.Stay, 2), false)
}

// track is where something is, minute by minute; from its last minute on it is where it is there.
type track [24]int

// from is it, in a zone (or nowhere, 0) from now on.
func (w track) from(now, zone int) track {
	for minute := now; minute < len(w); minute++ {
		w[minute] = zone
	}
	return w
}

// wantTrack wants stays to be such that may be, and to be where they are, and as long there, minute by minute.
func wantTrack(t *testing.T, l []api.Stay, w track) {
	t.Helper()
	wantRight(t, l, true)
	count := 0
	for minute, zone := range w {
		wantZone(t, l, minute, zone)
		wantMinutes(t, l, minute, count)
		if zone > 0 {
			count++
		}
	}
	wantZone(t, l, -1, 0)
	wantZone(t, l, 1<<40, w[len(w)-1])
	wantZone(t, l, math.MaxInt, w[len(w)-1])
}

// step goes into a zone, or leaves (0), now; with an error all stays as it was.
func step(t *testing.T, l []api.Stay, w track, zone, now int) ([]api.Stay, track) {
	t.Helper()
	next, e := stays.Leave(l, now)
	want, wantE := leaveByWords(l, now)
	if zone != 0 {
		next, e = stays.Enter(l, zone, now)
		want, wantE = enterByWords(l, zone, now)
	}
	if e != wantE || !slices.Equal(next, want) {
		t.Fatalf("%v, into %d at %d: %v, error %d, not %v, error %d", l, zone, now, next, e, want, wantE)
	}
	if e != api.OK {
		return l, w
	}
	return next, w.from(now, zone)
}

// P9.2: all steps, a few, from nowhere on: also into no time, back, and beside the minutes that may be.
func TestAllSteps(t *testing.T) {
	const most = 5
	ends := 0
	var walk func(l []api.Stay, w track, now, steps int)
	walk = func(l []api.Stay, w track, now, steps int) {
		wantTrack(t, l, w)
		if steps == most {
			ends++
			return
		}
		for zone := range 3 {
			for _, later := range []int{-1, 0, 2} {
				next, where := step(t, l, w, zone, now+later)
				walk(next, where, now+later, steps+1)
			}
		}
	}
	walk(nil, track{}, 1, 0)
	if ends != 59049 {
		t.Errorf("%d ends", ends)
	}
}

// dice tell numbers that look like any, the same in each run.
type dice uint64

func (d *dice) below(n int) int {
	*d = *d*6364136223846793005 + 1442695040888963407
	x := uint64(*d^*d>>31) * 0x9e3779b97f4a7c15
	return int((x >> 1) % uint64(n))
}

// P9.2: many steps, most of them of those that may be.
func TestManySteps(t *testing.T) {
	done := 0
	for number := range 2000 {
		d := dice(number)
		var l []api.Stay
		w, now := track{}, d.below(4)
		for now < len(w)-1 {
			was := len(l)
			l, w = step(t, l, w, max(0, d.below(6)-1), now)
			wantTrack(t, l, w)
			if len(l) > was {
				done++
			}
			if n := len(l); n == 0 || l[n-1].To == -1 || d.below(3) == 0 {
				now += d.below(3)
			}
			if d.below(8) == 0 {
				now = max(0, now-1)
			}
			if d.below(40) == 0 {
				break
			}
		}
	}
	if done < 5000 {
		t.Errorf("just %d stays began", done)
	}
}

// P9.2: a long way, all minutes of it.
func TestLongWay(t *testing.T) {
	var l []api.Stay
	var want []api.Stay
	for now := range 2000 {
		var e api.Errno
		if l, e = stays.Enter(l, 1+now%3, 5*now); e != api.OK {
			t.Fatalf("Enter at %d: error %d", 5*now, e)
		}
		want = append(want, stay(1+now%3, 5*now, 5*now+5))
	}
	l, e := stays.Leave(l, 10000)
	if e != api.OK {
		t.Fatalf("Leave: error %d", e)
	}
	wantSame(t, l, want, true)
	for minute := 0; minute < 10000; minute += 7 {
		wantZone(t, l, minute, 1+minute/5%3)
		wantMinutes(t, l, minute, minute)
	}
	wantUpto(t, l, 5000, want[:1000]...)
	wantUpto(t, l, 5001, append(slices.Clip(want[:1000]), stay(2, 5000, 5001))...)
	want[1000].From++
	wantSame(t, l, want, false)
	wantRight(t, want, false)
}

// framed are stays with others ahead of them, and behind their length, in their memory.
func framed(l []api.Stay, beyond api.Stay) (all, within []api.Stay) {
	all = slices.Concat(list(beyond, beyond), l, list(beyond, beyond, beyond))
	return all, all[2 : 2+len(l)]
}

// Rule 4: what is handed in stays as it was, and what lies about it in its memory makes no difference.
func TestArgumentsStay(t *testing.T) {
	for _, l := range slices.Concat(may(), mayNot()) {
		for _, beyond := range []api.Stay{{}, stay(-1, -1, -1), on(1, 9), stay(2, 9, 12), stay(3, 0, 1)} {
			all, within := framed(l, beyond)
			was := slices.Clone(all)
			wantRight(t, within, rightByWords(l))
			wantSame(t, within, l, true)
			for _, now := range asked(l) {
				wantTold(t, within, now)
				for zone := range 4 {
					wantGone(t, within, zone, now)
				}
				if !slices.Equal(all, was) {
					t.Fatalf("%v became %v", was, all)
				}
			}
		}
	}
}

// spoil writes into all memory of a list.
func spoil(l []api.Stay) {
	_ = append(l, stay(-7, -7, -7))
	l = l[:cap(l)]
	for i := range l {
		l[i] = stay(-9, -9, -9)
	}
}

// Rule 4: what is answered is new: spoilt, it changes neither what was handed in nor another answer, and it isn't changed by what was handed in.
func TestAnswersAreNew(t *testing.T) {
	for _, l := range may() {
		for _, now := range asked(l) {
			for zone := range 4 {
				all, within := framed(l, on(1, 9))
				was := slices.Clone(all)
				ask := func() [][]api.Stay {
					entered, _ := stays.Enter(within, zone, now)
					left, _ := stays.Leave(within, now)
					return [][]api.Stay{entered, left, stays.Upto(within, now)}
				}
				first := ask()
				for _, answer := range ask() {
					spoil(answer)
				}
				if !slices.Equal(all, was) {
					t.Fatalf("%v became %v", was, all)
				}
				clear(all)
				want, _ := enterByWords(l, zone, now)
				wantSame(t, first[0], want, true)
				want, _ = leaveByWords(l, now)
				wantSame(t, first[1], want, true)
				wantSame(t, first[2], uptoByWords(l, now), true)
			}
		}
	}
}

// P1, P2: each call ends, at whatever it is given, and answers the same again.
func TestAgain(t *testing.T) {
	ask := func() (told []string) {
		for _, zone := range edges() {
			for _, from := range edges() {
				for _, to := range edges() {
					s := stay(zone, from, to)
					for _, l := range [][]api.Stay{{s}, {s, s}, {stay(1, 0, from), s}, {s, on(2, to)}} {
						for _, n := range []int{math.MinInt, -1, 0, from, to, math.MaxInt} {
							entered, e := stays.Enter(l, zone, n)
							left, other := stays.Leave(l, n)
							told = append(told, fmt.Sprint(stays.Right(l), entered, e, left, other, stays.Zone(l, n), stays.Upto(l, n), stays.Minutes(l, n), stays.Same(l, entered)))
						}
					}
				}
			}
		}
		return told
	}
	first := ask()
	for range 2 {
		if !slices.Equal(ask(), first) {
			t.Fatal("asked again, another answer")
		}
	}
}
