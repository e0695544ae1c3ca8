package ledger

import (
	"maps"
	"slices"
	"testing"

	"hoarfrost/api"
)

// What no exposure can tell: of each zone, and limit that was asked, what was added up is kept, whatever comes, and nothing else is.
func TestWhatIsKept(t *testing.T) {
	l := New()
	for id := range 3 {
		l.AddZone(api.Zone{ID: id + 1, Worst: 100, Gap: 5})
	}
	limits := func(zone int) []int { return slices.Sorted(maps.Keys(l.zones[zone].indexes)) }
	want := func(one, two []int) {
		t.Helper()
		if !slices.Equal(limits(1), one) || !slices.Equal(limits(2), two) || len(limits(3)) != 0 || len(l.zones) != 3 {
			t.Fatalf("%v and %v are kept, not %v and %v", limits(1), limits(2), one, two)
		}
	}
	s := []api.Stay{{Zone: 1, From: 0, To: 10}, {Zone: 2, From: 10, To: 20}, {Zone: 4, From: 20, To: -1}}
	want(nil, nil)
	l.Exposure(40, s, 10)
	want([]int{40}, nil)
	l.Exposure(50, s, 30)
	want([]int{40, 50}, []int{50})
	l.Exposure(api.Top+1, s, 30)
	l.Exposure(60, append(s, s...), 30)
	l.Air(3, 5)
	l.Readings(3)
	want([]int{40, 50}, []int{50})
	was, two := maps.Clone(l.zones[1].indexes), l.zones[2].indexes[50]
	for minute := range 30 {
		l.Put(1, api.Reading{Minute: minute, Tenths: 45})
		l.Put(1, api.Reading{Minute: minute, Tenths: 45})
		l.Put(2, api.Reading{Minute: minute, Tenths: 70})
		l.Exposure(40, s[:1], minute)
		l.Exposure(50, s, minute)
		l.AddZone(api.Zone{ID: 1})
	}
	want([]int{40, 50}, []int{50})
	if !maps.Equal(l.zones[1].indexes, was) || l.zones[2].indexes[50] != two {
		t.Error("what was added up is another one")
	}
}
