package model

import (
	"cmp"
	"slices"
	"sort"

	"hoarfrost/api"
	"hoarfrost/frame"
	"hoarfrost/sat"
)

// sense hears a frame, and tells 1, if that changed anything. Nothing changes ahead of an error.
func (t *things) sense(b []byte) (int, api.Errno) {
	f, e := frame.Decode(b)
	if e != api.OK {
		return 0, e
	}
	zone, there := t.zone(f.Zone)
	if !there {
		return 0, api.ErrNone
	}
	if f.Minute > t.Now {
		return 0, api.ErrFuture
	}
	if t.hear(zone, f) {
		return 1, api.OK
	}
	return 0, api.OK
}

// hear puts what a frame says where it belongs, and tells whether anything changed there.
func (t *things) hear(zone int, f api.Frame) bool {
	if f.Door {
		return put(&t.Marks[zone], api.Mark{Minute: f.Minute, Seq: f.Seq, Open: f.Open}, compareMarks, isMoreOpen)
	}
	// There is no error, as a frame of bytes has tenths, if it is none of a door.
	tenths, _ := frame.Tenths(f)
	return put(&t.Readings[zone], api.Reading{Minute: f.Minute, Seq: f.Seq, Tenths: tenths}, compareReadings, isWarmer)
}

// put lets a list, that rises, have a thing, too, or, of two that are as good as one, the greater one; and tells whether anything changed.
func put[T any](l *[]T, x T, compare func(a, b T) int, isMore func(a, b T) bool) bool {
	at, there := slices.BinarySearchFunc(*l, x, compare)
	switch {
	case !there:
		*l = slices.Insert(*l, at, x)
	case isMore(x, (*l)[at]):
		(*l)[at] = x
	default:
		return false
	}
	return true
}

func compareReadings(a, b api.Reading) int {
	return cmp.Or(cmp.Compare(a.Minute, b.Minute), cmp.Compare(a.Seq, b.Seq))
}

func compareMarks(a, b api.Mark) int {
	return cmp.Or(cmp.Compare(a.Minute, b.Minute), cmp.Compare(a.Seq, b.Seq))
}

func isWarmer(a, b api.Reading) bool { return a.Tenths > b.Tenths }

func isMoreOpen(a, b api.Mark) bool { return a.Open && !b.Open }

// exposure is a lot's, up to a minute: what the air was above its product's limit where it was, each minute.
func (t *things) exposure(l api.Lot, upto int) int {
	limit := t.productOf(l).Limit
	sum := 0
stays:
	for _, s := range l.Stays {
		air := t.listen(s.Zone, s.From)
		for minute := s.From; minute < upto; minute++ {
			if minute == s.To {
				continue stays
			}
			// What is below 0 adds nothing.
			sum = sat.Add(sum, air.at(minute)-limit)
		}
	}
	return sum
}

// ear goes through a zone's minutes, rising.
type ear struct {
	zone  api.Zone
	heard []api.Reading
	count int // how many of them are known to be of the minute, or ahead of it
}

// listen is an ear in a zone, which is there, for the minutes from one on.
func (t *things) listen(zone, from int) *ear {
	at, _ := t.zone(zone)
	heard := t.Readings[at]
	return &ear{
		zone:  t.Zones[at],
		heard: heard,
		count: sort.Search(len(heard), func(i int) bool { return heard[i].Minute > from }),
	}
}

// at is the air of a minute, that is not ahead of one that was asked.
func (e *ear) at(minute int) int {
	for e.count < len(e.heard) && e.heard[e.count].Minute <= minute {
		e.count++
	}
	if e.count == 0 {
		return e.zone.Worst
	}
	last := e.heard[e.count-1]
	if minute-last.Minute > e.zone.Gap {
		return e.zone.Worst
	}
	return last.Tenths
}
