package excess

import (
	"slices"
	"testing"

	"hoarfrost/api"
)

// What no sum can tell: behind a reading that changed something what is ahead of its Minute stays added up, and behind one that changed nothing all does.
func TestWhatStaysAddedUp(t *testing.T) {
	x, _ := New(100, 5, 40)
	for minute := range 100 {
		x.Put(api.Reading{Minute: 10 * minute, Seq: 1, Tenths: 45})
	}
	x.Sum(0, api.MaxMinute)
	whole := slices.Clone(x.parts)
	if len(whole) != 200 || x.known != api.MaxMinute {
		t.Fatalf("%d parts, up to %d", len(whole), x.known)
	}
	for _, c := range []struct {
		r            api.Reading
		parts, known int
	}{
		{api.Reading{Minute: 990, Seq: 1, Tenths: 44}, 200, api.MaxMinute},
		{api.Reading{Minute: 990, Seq: 1, Tenths: api.Top + 1}, 200, api.MaxMinute},
		{api.Reading{Minute: api.MaxMinute - 1, Tenths: 1}, 200, api.MaxMinute - 1},
		{api.Reading{Minute: 997, Tenths: 1}, 200, 997},
		{api.Reading{Minute: 996, Tenths: 1}, 199, 996},
		{api.Reading{Minute: 995, Tenths: 1}, 199, 995},
		{api.Reading{Minute: 500, Seq: 1, Tenths: 46}, 100, 500},
		{api.Reading{Minute: 499, Tenths: 1}, 100, 499},
		{api.Reading{Minute: 700, Tenths: 1}, 100, 499},
		{api.Reading{Minute: 0, Tenths: 1}, 0, 0},
	} {
		x.Put(c.r)
		if x.known != c.known || !slices.Equal(x.parts, whole[:c.parts]) {
			t.Errorf("behind %v %d parts stay, up to %d, not %d, up to %d", c.r, len(x.parts), x.known, c.parts, c.known)
		}
	}
}

// Nor does a sum tell that nothing is added up that none asked for, and nothing twice: parts begin where the air may be another one, each of them once.
func TestWhatIsAddedUp(t *testing.T) {
	x, _ := New(100, 5, 40)
	x.Put(api.Reading{Minute: 10, Tenths: 45})
	x.Put(api.Reading{Minute: 40, Tenths: 46})
	for _, c := range []struct{ to, known int }{{-1, 0}, {0, 0}, {1, 10}, {3, 10}, {10, 10}, {16, 16}, {1, 16}, {17, 40}, {18, 40}, {41, 46}, {47, api.MaxMinute}, {50, api.MaxMinute}} {
		x.Sum(c.to, c.to)
		if x.known != c.known {
			t.Errorf("up to %d what is known ends at %d, not %d", c.to, x.known, c.known)
		}
	}
	want := []part{{0, 0, 60}, {10, 600, 5}, {16, 630, 60}, {40, 2070, 6}, {46, 2106, 60}}
	if !slices.Equal(x.parts, want) {
		t.Errorf("%v, not %v", x.parts, want)
	}
}
