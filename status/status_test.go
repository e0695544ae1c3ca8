package status_test

import (
	"fmt"
	"math"
	"slices"
	"strings"
	"testing"

	"hoarfrost/api"
	"hoarfrost/status"
)

// The words of the chapter's table: a line for each status, and in it the event's name and what stands behind it.
const table = `
quarantine: ToRelease released, ToHold held, ToReject rejected
released: ToHold held, ToReject rejected, ToShip shipped
held: ToHold held, ToAccept released, ToReject rejected
rejected:
shipped:
`

// The statuses, and events, in the order of their numbers.
var (
	statuses = []string{"quarantine", "released", "held", "rejected", "shipped"}
	events   = []string{"ToRelease", "ToHold", "ToAccept", "ToReject", "ToShip"}
)

// read reads the table: the name behind a status and an event; "", if there is none.
func read(s, event string) string {
	for line := range strings.Lines(table) {
		rest, is := strings.CutPrefix(strings.TrimSpace(line), s+":")
		if !is {
			continue
		}
		for cell := range strings.SplitSeq(rest, ",") {
			if behind, is := strings.CutPrefix(strings.TrimSpace(cell), event+" "); is {
				return behind
			}
		}
	}
	return ""
}

// after is what After answers by the words.
func after(s api.Status, e status.Event) (api.Status, api.Errno) {
	if s < 0 || s > 4 || e < 0 || e > 4 {
		return 0, api.ErrArg
	}
	behind := read(statuses[s], events[e])
	if behind == "" {
		return 0, api.ErrState
	}
	return api.Status(slices.Index(statuses, behind)), api.OK
}

// beyond are numbers that are no status's, and no event's; some would be, if they wrapped round.
func beyond() []int {
	return []int{-1, 5, -2, 6, -4, -5, 7, 8, 9, 24, 25, 255, 256, 257, 1 << 32, 1<<32 + 1, -1<<32 + 1, math.MinInt, math.MinInt + 1, math.MaxInt - 1, math.MaxInt}
}

// all are the numbers that are a status's, or an event's, and those that are not.
func all() []int { return append(beyond(), 0, 1, 2, 3, 4) }

// dice tell numbers that look like any, the same in each run.
type dice uint64

func (d *dice) below(n int) int {
	*d = *d*6364136223846793005 + 1442695040888963407
	x := uint64(*d^*d>>31) * 0x9e3779b97f4a7c15
	return int((x >> 1) % uint64(n))
}

func wantAfter(t *testing.T, s api.Status, e status.Event, want api.Status, wantE api.Errno) {
	t.Helper()
	if got, errno := status.After(s, e); got != want || errno != wantE {
		t.Errorf("After(%d, %d): %d, error %d, not %d, error %d", s, e, got, errno, want, wantE)
	}
}

func wantParse(t *testing.T, name string, want api.Status, wantE api.Errno) {
	t.Helper()
	if got, errno := status.Parse(name); got != want || errno != wantE {
		t.Errorf("Parse(%q): %d, error %d, not %d, error %d", name, got, errno, want, wantE)
	}
}

// P11.1: the events are numbered from 0 on, in their order.
func TestEvents(t *testing.T) {
	l := []status.Event{status.ToRelease, status.ToHold, status.ToAccept, status.ToReject, status.ToShip}
	if !slices.Equal(l, []status.Event{0, 1, 2, 3, 4}) {
		t.Errorf("the events are %d", l)
	}
}

// P11.1, S1: each cell of the table that is filled.
func TestAfter(t *testing.T) {
	wantAfter(t, api.Quarantine, status.ToRelease, api.Released, api.OK)
	wantAfter(t, api.Quarantine, status.ToHold, api.Held, api.OK)
	wantAfter(t, api.Quarantine, status.ToReject, api.Rejected, api.OK)
	wantAfter(t, api.Released, status.ToHold, api.Held, api.OK)
	wantAfter(t, api.Released, status.ToReject, api.Rejected, api.OK)
	wantAfter(t, api.Released, status.ToShip, api.Shipped, api.OK)
	wantAfter(t, api.Held, status.ToHold, api.Held, api.OK)
	wantAfter(t, api.Held, status.ToAccept, api.Released, api.OK)
	wantAfter(t, api.Held, status.ToReject, api.Rejected, api.OK)
}

// P11.1, S1 and rule 2: each cell of the table that is empty; beside the error stands 0.
func TestAfterNothing(t *testing.T) {
	empty := map[api.Status][]status.Event{
		api.Quarantine: {status.ToAccept, status.ToShip},
		api.Released:   {status.ToRelease, status.ToAccept},
		api.Held:       {status.ToRelease, status.ToShip},
		api.Rejected:   {status.ToRelease, status.ToHold, status.ToAccept, status.ToReject, status.ToShip},
		api.Shipped:    {status.ToRelease, status.ToHold, status.ToAccept, status.ToReject, status.ToShip},
	}
	n := 0
	for s, l := range empty {
		for _, e := range l {
			wantAfter(t, s, e, 0, api.ErrState)
			n++
		}
	}
	if n != 25-9 {
		t.Errorf("%d empty cells, not 16", n)
	}
}

// P11.1, S1: a status, or an event, or both, that there is not; ErrArg comes ahead of ErrState.
func TestAfterBeyond(t *testing.T) {
	for _, n := range beyond() {
		for _, m := range all() {
			wantAfter(t, api.Status(n), status.Event(m), 0, api.ErrArg)
			wantAfter(t, api.Status(m), status.Event(n), 0, api.ErrArg)
		}
	}
	wantAfter(t, -1, status.ToHold, 0, api.ErrArg)
	wantAfter(t, 5, status.ToHold, 0, api.ErrArg)
	wantAfter(t, api.Held, -1, 0, api.ErrArg)
	wantAfter(t, api.Held, 5, 0, api.ErrArg)
	wantAfter(t, math.MinInt, math.MaxInt, 0, api.ErrArg)
	wantAfter(t, api.Rejected, 5, 0, api.ErrArg)
	wantAfter(t, api.Shipped, -1, 0, api.ErrArg)
}

// P11.1, S1: all numbers, against the words of the table.
func TestAfterByTheTable(t *testing.T) {
	for _, s := range all() {
		for _, e := range all() {
			want, wantE := after(api.Status(s), status.Event(e))
			wantAfter(t, api.Status(s), status.Event(e), want, wantE)
		}
	}
}

// P11.1, S1: the name of each status.
func TestName(t *testing.T) {
	names := map[api.Status]string{
		api.Quarantine: "quarantine",
		api.Released:   "released",
		api.Held:       "held",
		api.Rejected:   "rejected",
		api.Shipped:    "shipped",
	}
	for s, want := range names {
		if name := status.Name(s); name != want {
			t.Errorf("Name(%d): %q, not %q", s, name, want)
		}
	}
	for _, n := range beyond() {
		if name := status.Name(api.Status(n)); name != "" {
			t.Errorf("Name(%d): %q, not none", n, name)
		}
	}
}

// P11.1, S1: the status of each name; told and parsed again each is what it was.
func TestParse(t *testing.T) {
	wantParse(t, "quarantine", api.Quarantine, api.OK)
	wantParse(t, "released", api.Released, api.OK)
	wantParse(t, "held", api.Held, api.OK)
	wantParse(t, "rejected", api.Rejected, api.OK)
	wantParse(t, "shipped", api.Shipped, api.OK)
	for s := range api.Status(5) {
		wantParse(t, status.Name(s), s, api.OK)
	}
}

// P11.1, S1 and rule 2: texts that are no status's; beside the error stands 0.
func TestParseNothing(t *testing.T) {
	wantParse(t, "", 0, api.ErrForm)
	for _, name := range statuses {
		for _, text := range near(name) {
			wantParse(t, text, 0, api.ErrForm)
		}
		for _, other := range statuses {
			wantParse(t, name+other, 0, api.ErrForm)
			wantParse(t, name+" "+other, 0, api.ErrForm)
		}
	}
	for _, text := range []string{" ", "0", "1", "4", "-1", "5", "\x00", "none", "ToHold", "hold", "release", "reject", "ship", "Quarantine", "\xff", "hé ld", strings.Repeat("held", 1000)} {
		wantParse(t, text, 0, api.ErrForm)
	}
}

// near are texts that are nearly a name.
func near(name string) []string {
	l := []string{strings.ToUpper(name), strings.ToUpper(name[:1]) + name[1:], " " + name, name + " ", "\t" + name, name + "\n", name + "\x00", "\x00" + name, "\ufeff" + name, `"` + name + `"`, name + "."}
	for i := range len(name) {
		for _, b := range []byte{'a', 'e', 'Q', ' ', 0, 0xff, name[i] ^ 0x20, name[i] + 1, name[i] - 1, name[i] | 0x80} {
			if b != name[i] {
				l = append(l, name[:i]+string([]byte{b})+name[i+1:])
			}
			l = append(l, name[:i]+string([]byte{b})+name[i:])
		}
		l = append(l, name[:i]+name[i+1:], name[:i], name+name[i:i+1])
	}
	return l
}

// P11.1, S1: what has no events any more is final, and nothing that is no status.
func TestFinal(t *testing.T) {
	finals := map[int]bool{0: false, 1: false, 2: false, 3: true, 4: true}
	for _, n := range all() {
		if got := status.Final(api.Status(n)); got != finals[n] {
			t.Errorf("Final(%d): %t, not %t", n, got, finals[n])
		}
	}
	for s := range api.Status(5) {
		any := false
		for e := range status.Event(5) {
			_, errno := status.After(s, e)
			any = any || errno == api.OK
		}
		if status.Final(s) == any {
			t.Errorf("Final(%d) is %t, and events that it has: %t", s, status.Final(s), any)
		}
	}
}

// told is what may be held against what is asked for: a status, and the one ahead of it.
type told struct{ ahead, now api.Status }

// P11.2: what is rejected, or shipped, stays so, whatever comes.
func TestStays(t *testing.T) {
	for _, s := range []api.Status{api.Rejected, api.Shipped} {
		for _, n := range all() {
			if now, errno := status.After(s, status.Event(n)); errno == api.OK {
				t.Errorf("behind event %d, %q is %q", n, status.Name(s), status.Name(now))
			}
		}
		if !status.Final(s) {
			t.Errorf("%q is not final", status.Name(s))
		}
	}
}

// P11.2: all series of up to seven events, whatever stands at their beginning.
func TestAllSeries(t *testing.T) {
	for s := range api.Status(5) {
		follow(t, []told{{-1, s}}, 7)
	}
}

// follow goes on with every event, and holds what is come by against the promise.
func follow(t *testing.T, way []told, left int) {
	now := way[len(way)-1].now
	wantEnd(t, way)
	if left == 0 {
		return
	}
	for e := range status.Event(5) {
		next, errno := status.After(now, e)
		if errno == api.OK {
			follow(t, append(slices.Clip(way), told{now, next}), left-1)
		}
	}
}

// wantEnd wants the last step of a way, of the statuses that were one behind the other, to be one that the promise lets be.
func wantEnd(t *testing.T, way []told) {
	t.Helper()
	last := way[len(way)-1]
	if last.ahead == -1 {
		return
	}
	if last.ahead == api.Rejected || last.ahead == api.Shipped {
		t.Fatalf("%v: it did not stay so", way)
	}
	if last.now == api.Shipped && last.ahead != api.Released {
		t.Fatalf("%v: shipped, and not released just ahead of it", way)
	}
	if last.now == api.Quarantine {
		t.Fatalf("%v: in quarantine again", way)
	}
}

// P11.2: many long series of any events: what they come by is that of the table; what was held comes out of it by being accepted alone, ahead of being released, or is rejected.
func TestManySeries(t *testing.T) {
	d := dice(11)
	shipped, accepted := 0, 0
	for range 3000 {
		now, held, way := api.Quarantine, false, []told{{-1, api.Quarantine}}
		for range 12 {
			e := status.Event(d.below(7) - 1)
			want, wantE := after(now, e)
			wantAfter(t, now, e, want, wantE)
			if wantE != api.OK {
				continue
			}
			if next, _ := status.After(now, e); next == api.Released && held {
				if e != status.ToAccept {
					t.Fatalf("%v: held, and released by %d", way, e)
				}
				held, accepted = false, accepted+1
			}
			now, way = want, append(way, told{now, want})
			wantEnd(t, way)
			held = held || now == api.Held
			if now == api.Shipped {
				if held {
					t.Fatalf("%v: held, and shipped", way)
				}
				shipped++
			}
		}
	}
	if shipped < 300 || accepted < 300 {
		t.Errorf("%d were shipped, %d accepted: too few to tell", shipped, accepted)
	}
}

// P1, P2: each call ends, and answers the same again, whatever was asked between.
func TestAgain(t *testing.T) {
	ask := func() (l []string) {
		for _, n := range all() {
			s := api.Status(n)
			back, errno := status.Parse(status.Name(s))
			l = append(l, fmt.Sprint(status.Name(s), back, errno, status.Final(s)))
			for _, m := range all() {
				behind, errno := status.After(s, status.Event(m))
				l = append(l, fmt.Sprint(behind, errno))
			}
		}
		return l
	}
	first := ask()
	for range 3 {
		if again := ask(); !slices.Equal(again, first) {
			t.Fatalf("asked again: %v, not %v", again, first)
		}
	}
}
