package house_test

import (
	"fmt"
	"math"
	"slices"
	"testing"

	"hoarfrost/api"
	"hoarfrost/house"
)

// full is a state that has some of all.
func full() house.State {
	return house.State{
		Now: 20, Given: 9,
		Zones: []api.Zone{
			{ID: 2, Worst: 40, Gap: 5, Room: 30, Dock: true, Ajar: 3},
			{ID: 3, Worst: -60, Room: 0},
			{ID: 9, Worst: 50, Gap: 2, Room: 12, Ajar: 1},
		},
		Products: []api.Product{{ID: 1, Limit: 40, Budget: 100}, {ID: 5, Limit: -20, Budget: 7}},
		Readings: [][]api.Reading{{{Minute: 3, Seq: 1, Tenths: 45}, {Minute: 3, Seq: 2, Tenths: 45}, {Minute: 20, Seq: 0, Tenths: 41}}, {}, {{Minute: 4, Seq: 9, Tenths: 50}}},
		Marks:    [][]api.Mark{nil, {{Minute: 0, Seq: 5, Open: true}}, {{Minute: 7, Open: true}, {Minute: 7, Seq: 1}, {Minute: 20, Open: true}}},
		Lots: []api.Lot{
			{ID: 1, Product: 1, Units: 5, Expiry: 90, Grant: 20, Order: 2, Status: api.Released, Stays: []api.Stay{stay(9, 2, 4), stay(3, 4, 9), on(2, 9)}},
			{ID: 2, Product: 5, Units: 12, Expiry: 30, Status: api.Quarantine, Stays: []api.Stay{on(9, 20)}},
			{ID: 4, Product: 1, Units: 3, Expiry: 40, Order: 3, Status: api.Shipped, Stays: []api.Stay{stay(2, 1, 20)}},
			{ID: 5, Product: 1, Units: 3, Expiry: 40, Grant: 3, Order: 3, Status: api.Shipped},
			{ID: 6, Product: 1, Units: 3, Expiry: 40, Status: api.Held, Stays: []api.Stay{on(2, 0)}},
			{ID: 7, Product: 1, Units: 22, Expiry: 40, Status: api.Released, Stays: []api.Stay{on(2, 8)}},
		},
		Orders: []api.Order{{ID: 1, Product: 1, Units: 9}, {ID: 2, Product: 1, Units: 5, State: allocated}, {ID: 3, Product: 1, Units: 6, State: shipped}},
		Certs:  []api.Cert{{ID: 1, Order: 3, Lot: 4, Product: 1, Units: 3, Minute: 20, Exposure: 30, Allowance: 100}, {ID: 2, Order: 3, Lot: 5, Product: 1, Units: 3, Minute: 4, Allowance: 103}},
	}
}

// changed is a full state with something else.
func changed(change func(s *house.State)) house.State {
	s := full()
	change(&s)
	return s
}

// canBe wants a house of a state, which has it; canNot wants none.
func canBe(t *testing.T, what string, s house.State) {
	t.Helper()
	h, e := house.Make(s)
	if e != api.OK || h == nil {
		t.Errorf("%s: error %d", what, e)
		return
	}
	if d := h.Dump(); fmt.Sprint(d) != fmt.Sprint(s) {
		t.Errorf("%s: %v\nnot %v", what, d, s)
	}
}

func canNot(t *testing.T, what string, s house.State) {
	t.Helper()
	if h, e := house.Make(s); e != api.ErrArg || h != nil {
		t.Errorf("%s: error %d", what, e)
	}
}

// P19.1, H2: Make, and Dump, of a house without anything, and of one that has some of all.
func TestMake(t *testing.T) {
	canBe(t, "none", house.State{})
	canBe(t, "empty", house.State{Zones: []api.Zone{}, Products: []api.Product{}, Readings: [][]api.Reading{}, Marks: [][]api.Mark{}, Lots: []api.Lot{}, Orders: []api.Order{}, Certs: []api.Cert{}})
	canBe(t, "given", house.State{Now: end - 1, Given: lastLot})
	canBe(t, "full", full())
	made(t, house.State{}).ok(1, tick(1))
	p := made(t, full())
	p.no(api.ErrFull, receive(5, 2, 1, 5), receive(5, 9, 1, 5), move(6, 3))
	p.ok(10, split(7, 2))
	p.ok(1, ship(2))
}

// P19.1, H2: NOW, and the greatest lot's ID that was given.
func TestMakeNumbers(t *testing.T) {
	for _, n := range []int{-1, end, end + 1, math.MinInt, math.MaxInt, 1<<32 + 20} {
		canNot(t, fmt.Sprint("Now ", n), house.State{Now: n})
		canNot(t, fmt.Sprint("Now ", n), changed(func(s *house.State) { s.Now = n }))
	}
	for _, n := range []int{0, 1, 5, end - 1} {
		canBe(t, fmt.Sprint("Now ", n), house.State{Now: n})
	}
	canBe(t, "Now 21", changed(func(s *house.State) { s.Now = 21 }))
	for _, n := range []int{-1, 257, 1000, math.MinInt, math.MaxInt} {
		canNot(t, fmt.Sprint("Given ", n), house.State{Given: n})
		canNot(t, fmt.Sprint("Given ", n), changed(func(s *house.State) { s.Given = n }))
	}
	for _, n := range []int{0, 1, 6} {
		canNot(t, fmt.Sprint("Given ", n), changed(func(s *house.State) { s.Given = n }))
	}
	for _, n := range []int{7, 8, 256} {
		canBe(t, fmt.Sprint("Given ", n), changed(func(s *house.State) { s.Given = n }))
	}
}

// wrongs are changes, each of which lets there be no such house.
type wrongs map[string]func(s *house.State)

func (l wrongs) try(t *testing.T) {
	t.Helper()
	for what, change := range l {
		canNot(t, what, changed(change))
	}
}

// rights are changes, behind each of which there is still such a house.
type rights map[string]func(s *house.State)

func (l rights) try(t *testing.T) {
	t.Helper()
	for what, change := range l {
		canBe(t, what, changed(change))
	}
}

// P19.1, H2: zones, and products.
func TestMakeMaster(t *testing.T) {
	wrongs{
		"zone 0":           func(s *house.State) { s.Zones[0].ID = 0 },
		"zone -1":          func(s *house.State) { s.Zones[0].ID = -1 },
		"zone 17":          func(s *house.State) { s.Zones[2].ID = 17 },
		"zone 2 twice":     func(s *house.State) { s.Zones[1].ID = 2 },
		"zones that fall":  func(s *house.State) { s.Zones[1].ID = 1 },
		"Worst":            func(s *house.State) { s.Zones[0].Worst = 1<<40 + 1 },
		"Gap":              func(s *house.State) { s.Zones[0].Gap = -1 },
		"Gap's end":        func(s *house.State) { s.Zones[1].Gap = end },
		"Room":             func(s *house.State) { s.Zones[1].Room = -1 },
		"Room's end":       func(s *house.State) { s.Zones[2].Room = end + 1 },
		"Ajar":             func(s *house.State) { s.Zones[2].Ajar = -1 },
		"Ajar's end":       func(s *house.State) { s.Zones[2].Ajar = end },
		"product 0":        func(s *house.State) { s.Products[0].ID = 0 },
		"product 17":       func(s *house.State) { s.Products = append(s.Products, api.Product{ID: 17}) },
		"product 5 twice":  func(s *house.State) { s.Products = append(s.Products, s.Products[1]) },
		"products fall":    func(s *house.State) { s.Products = append(s.Products, api.Product{ID: 4}) },
		"Limit":            func(s *house.State) { s.Products[1].Limit = -1<<40 - 1 },
		"Budget":           func(s *house.State) { s.Products[0].Budget = -1 },
		"Budget's end":     func(s *house.State) { s.Products[0].Budget = most + 1 },
		"a zone more":      func(s *house.State) { s.Zones = append(s.Zones, api.Zone{ID: 10}) },
		"a zone less":      func(s *house.State) { s.Zones = append(s.Zones[:1:1], s.Zones[2]) },
		"no lots' product": func(s *house.State) { s.Products = s.Products[:1] },
	}.try(t)
	rights{
		"a zone more": func(s *house.State) {
			s.Zones = append(s.Zones, api.Zone{ID: 16, Worst: -1 << 40, Gap: end - 1, Room: end, Ajar: end - 1})
			s.Readings, s.Marks = append(s.Readings, nil), append(s.Marks, nil)
		},
		"another zone": func(s *house.State) { s.Zones[2].Worst, s.Zones[2].Gap, s.Zones[2].Ajar = 1<<40, 0, 0 },
		"a product more": func(s *house.State) {
			s.Products = append(s.Products, api.Product{ID: 16, Limit: 1 << 40, Budget: most})
		},
	}.try(t)
}

// P19.1, H2: zones, and products, of a house without anything else.
func TestMakeBare(t *testing.T) {
	zone := func(l ...api.Zone) house.State {
		return house.State{Zones: l, Readings: make([][]api.Reading, len(l)), Marks: make([][]api.Mark, len(l))}
	}
	product := func(l ...api.Product) house.State { return house.State{Products: l} }
	for _, z := range []api.Zone{{}, {ID: -1}, {ID: 17}, {ID: 1, Worst: 1<<40 + 1}, {ID: 1, Gap: -1}, {ID: 1, Gap: end}, {ID: 1, Room: -1}, {ID: 1, Room: end + 1}, {ID: 1, Ajar: -1}, {ID: 1, Ajar: end}} {
		canNot(t, fmt.Sprint(z), zone(z))
		canNot(t, fmt.Sprint(z), zone(z, api.Zone{ID: 16}))
	}
	for _, p := range []api.Product{{}, {ID: -1}, {ID: 17}, {ID: 1, Limit: -1<<40 - 1}, {ID: 1, Budget: -1}, {ID: 1, Budget: most + 1}} {
		canNot(t, fmt.Sprint(p), product(p))
		canNot(t, fmt.Sprint(p), product(p, api.Product{ID: 16}))
	}
	canBe(t, "zones", zone(api.Zone{ID: 1}, api.Zone{ID: 2}, api.Zone{ID: 16}))
	canNot(t, "zones that fall", zone(api.Zone{ID: 2}, api.Zone{ID: 1}))
	canNot(t, "zones twice", zone(api.Zone{ID: 1}, api.Zone{ID: 2}, api.Zone{ID: 2}))
	canBe(t, "products", product(api.Product{ID: 1}, api.Product{ID: 2}, api.Product{ID: 16}))
	canNot(t, "products that fall", product(api.Product{ID: 2}, api.Product{ID: 1}))
	canNot(t, "products twice", product(api.Product{ID: 1}, api.Product{ID: 2}, api.Product{ID: 2}))
}

// P19.1, H2: readings, and marks.
func TestMakeHeard(t *testing.T) {
	wrongs{
		"no readings":         func(s *house.State) { s.Readings = nil },
		"less readings":       func(s *house.State) { s.Readings = s.Readings[:2] },
		"more readings":       func(s *house.State) { s.Readings = append(s.Readings, nil) },
		"no marks":            func(s *house.State) { s.Marks = nil },
		"less marks":          func(s *house.State) { s.Marks = s.Marks[:2] },
		"more marks":          func(s *house.State) { s.Marks = append(s.Marks, nil) },
		"a reading's Minute":  func(s *house.State) { s.Readings[0][0].Minute = -1 },
		"a reading's Seq":     func(s *house.State) { s.Readings[0][0].Seq = -1 },
		"its end":             func(s *house.State) { s.Readings[0][2].Seq = 65536 },
		"Tenths":              func(s *house.State) { s.Readings[2][0].Tenths = 1<<40 + 1 },
		"Tenths below":        func(s *house.State) { s.Readings[2][0].Tenths = -1<<40 - 1 },
		"a reading twice":     func(s *house.State) { s.Readings[0][1] = s.Readings[0][0] },
		"one of less Tenths":  func(s *house.State) { s.Readings[0][1].Seq, s.Readings[0][1].Tenths = 1, 44 },
		"one of more Tenths":  func(s *house.State) { s.Readings[0][1].Seq, s.Readings[0][1].Tenths = 1, 46 },
		"readings fall":       func(s *house.State) { s.Readings[0][1].Seq = 0 },
		"their minutes fall":  func(s *house.State) { s.Readings[0][1].Minute = 2 },
		"a reading to come":   func(s *house.State) { s.Readings[0][2].Minute = 21 },
		"one of another zone": func(s *house.State) { s.Readings[1] = []api.Reading{{Minute: 21}} },
		"a mark's Minute":     func(s *house.State) { s.Marks[1][0].Minute = -1 },
		"a mark's Seq":        func(s *house.State) { s.Marks[1][0].Seq = -1 },
		"its Seq's end":       func(s *house.State) { s.Marks[1][0].Seq = 65536 },
		"a mark twice":        func(s *house.State) { s.Marks[2][1] = s.Marks[2][0] },
		"one that is open":    func(s *house.State) { s.Marks[2][1] = api.Mark{Minute: 7, Seq: 0} },
		"marks fall":          func(s *house.State) { s.Marks[2][0].Seq = 2 },
		"marks' minutes fall": func(s *house.State) { s.Marks[2][0].Minute = 8 },
		"a mark to come":      func(s *house.State) { s.Marks[2][2].Minute = 21 },
	}.try(t)
	rights{
		"a reading's ends":   func(s *house.State) { s.Readings[0][0] = api.Reading{Minute: 0, Seq: 65535, Tenths: -1 << 40} },
		"its other ends":     func(s *house.State) { s.Readings[0][2] = api.Reading{Minute: 20, Seq: 65535, Tenths: 1 << 40} },
		"a minute behind":    func(s *house.State) { s.Readings[0][1] = api.Reading{Minute: 4, Seq: 0, Tenths: 1} },
		"a mark's ends":      func(s *house.State) { s.Marks[1][0] = api.Mark{Minute: 20, Seq: 65535} },
		"a mark's Seq less":  func(s *house.State) { s.Marks[2][1] = api.Mark{Minute: 8, Seq: 0, Open: true} },
		"no readings at all": func(s *house.State) { s.Readings, s.Marks = make([][]api.Reading, 3), make([][]api.Mark, 3) },
	}.try(t)
}

// P19.1, H2: lots, as 12 has them, and where they were.
func TestMakeLots(t *testing.T) {
	wrongs{
		"lot 0":              func(s *house.State) { s.Lots[0].ID = 0 },
		"lot 1 twice":        func(s *house.State) { s.Lots[1].ID = 1 },
		"lots fall":          func(s *house.State) { s.Lots[1].ID = 5 },
		"lot 257":            func(s *house.State) { s.Lots[5].ID, s.Given = 257, 257 },
		"above Given":        func(s *house.State) { s.Lots[5].ID = 10 },
		"no Units":           func(s *house.State) { s.Lots[0].Units = 0 },
		"Units":              func(s *house.State) { s.Lots[2].Units = end + 1 },
		"a status":           func(s *house.State) { s.Lots[1].Status = 5 },
		"a status below":     func(s *house.State) { s.Lots[1].Status = -1 },
		"Expiry":             func(s *house.State) { s.Lots[1].Expiry = -1 },
		"Grant":              func(s *house.State) { s.Lots[1].Grant = -1 },
		"Order":              func(s *house.State) { s.Lots[1].Order = -1 },
		"Order's end":        func(s *house.State) { s.Lots[1].Order = 4 },
		"no product":         func(s *house.State) { s.Lots[1].Product = 0 },
		"another product":    func(s *house.State) { s.Lots[1].Product = 2 },
		"stays":              func(s *house.State) { s.Lots[0].Stays[1].From = 5 },
		"stays turned":       func(s *house.State) { slices.Reverse(s.Lots[0].Stays) },
		"no zone":            func(s *house.State) { s.Lots[1].Stays[0].Zone = 0 },
		"another zone":       func(s *house.State) { s.Lots[1].Stays[0].Zone = 4 },
		"was there":          func(s *house.State) { s.Lots[0].Stays[1].Zone = 16 },
		"was there, shipped": func(s *house.State) { s.Lots[2].Stays[0].Zone = 1 },
		"load":               func(s *house.State) { s.Lots[5].Units = 23 },
		"load of one":        func(s *house.State) { s.Lots[1].Units = 13 },
		"Room":               func(s *house.State) { s.Zones[0].Room = 29 },
		"no room":            func(s *house.State) { s.Lots[4].Stays[0].Zone = 3 },
		"from":               func(s *house.State) { s.Lots[1].Stays[0].From = 21 },
		"from, behind":       func(s *house.State) { s.Lots[0].Stays[1].To, s.Lots[0].Stays[2].From = 21, 21 },
		"to":                 func(s *house.State) { s.Lots[2].Stays[0].To = 21 },
		"from and to":        func(s *house.State) { s.Lots[2].Stays[0] = stay(2, 21, 22) },
		"nowhere":            func(s *house.State) { s.Lots[0].Stays = nil },
		"nowhere, held":      func(s *house.State) { s.Lots[4].Stays[0].To = 20 },
		"nowhere, new":       func(s *house.State) { s.Lots[1].Stays = nil },
		"nowhere, rejected":  func(s *house.State) { s.Lots[4].Status, s.Lots[4].Stays[0].To = api.Rejected, 9 },
		"not shipped":        func(s *house.State) { s.Lots[2].Status, s.Certs = api.Released, nil },
		"somewhere, shipped": func(s *house.State) { s.Lots[2].Stays[0].To = -1 },
		"nowhere, to come":   func(s *house.State) { s.Lots[4].Stays[0].To = 21 },
		"shipped from there": func(s *house.State) { s.Lots[4].Status = api.Shipped },
	}.try(t)
	rights{
		"lot 256":      func(s *house.State) { s.Lots[5].ID, s.Given = 256, 256 },
		"ends":         func(s *house.State) { s.Lots[1].Expiry, s.Lots[1].Grant, s.Lots[1].Order = math.MaxInt, math.MaxInt, 3 },
		"Units":        func(s *house.State) { s.Lots[2].Units = end },
		"rejected":     func(s *house.State) { s.Lots[1].Status, s.Lots[1].Units = api.Rejected, 1 },
		"from now on":  func(s *house.State) { s.Lots[5].Stays[0].From = 20 },
		"came at last": func(s *house.State) { s.Lots[0].Stays[1].To, s.Lots[0].Stays[2].From = 20, 20 },
		"left early":   func(s *house.State) { s.Lots[2].Stays[0].To = 2 },
		"no lots":      func(s *house.State) { s.Lots, s.Certs, s.Given = nil, nil, 0 },
		"less lots":    func(s *house.State) { s.Lots = s.Lots[2:] },
		"more Room":    func(s *house.State) { s.Zones[0].Room = end },
		"twice there":  func(s *house.State) { s.Lots[0].Stays[1].Zone = 9 },
	}.try(t)
}

// P19.1, H2: orders, and certificates.
func TestMakePapers(t *testing.T) {
	wrongs{
		"order 2 first":      func(s *house.State) { s.Orders[0].ID = 2 },
		"order 0":            func(s *house.State) { s.Orders[0].ID = 0 },
		"order 4":            func(s *house.State) { s.Orders[2].ID = 4 },
		"orders fall":        func(s *house.State) { slices.Reverse(s.Orders) },
		"a product":          func(s *house.State) { s.Orders[1].Product = 17 },
		"no product":         func(s *house.State) { s.Orders[1].Product = 0 },
		"no units":           func(s *house.State) { s.Orders[2].Units = 0 },
		"units":              func(s *house.State) { s.Orders[2].Units = end + 1 },
		"a state":            func(s *house.State) { s.Orders[2].State = 3 },
		"a state below":      func(s *house.State) { s.Orders[2].State = -1 },
		"an order less":      func(s *house.State) { s.Orders = s.Orders[:2] },
		"65 orders":          func(s *house.State) { s.Orders = ordered(65) },
		"cert 0":             func(s *house.State) { s.Certs[0].ID = 0 },
		"cert 2 first":       func(s *house.State) { s.Certs = s.Certs[1:] },
		"cert 1 twice":       func(s *house.State) { s.Certs[1].ID = 1 },
		"cert 3":             func(s *house.State) { s.Certs[1].ID = 3 },
		"certs fall":         func(s *house.State) { slices.Reverse(s.Certs) },
		"its Order":          func(s *house.State) { s.Certs[0].Order = -1 },
		"its Units":          func(s *house.State) { s.Certs[0].Units = most + 1 },
		"its Minute":         func(s *house.State) { s.Certs[1].Minute = -1 },
		"a Minute to come":   func(s *house.State) { s.Certs[1].Minute = 21 },
		"its Exposure":       func(s *house.State) { s.Certs[1].Exposure = -1 },
		"its Allowance":      func(s *house.State) { s.Certs[1].Allowance = most + 1 },
		"no lot":             func(s *house.State) { s.Certs[1].Lot = 3 },
		"lot 0":              func(s *house.State) { s.Certs[1].Lot = 0 },
		"a lot that is held": func(s *house.State) { s.Certs[1].Lot = 6 },
		"one that is there":  func(s *house.State) { s.Certs[0].Lot = 7 },
		"another product":    func(s *house.State) { s.Certs[0].Product = 5 },
		"no product there":   func(s *house.State) { s.Certs[0].Product = 2 },
	}.try(t)
	rights{
		"64 orders":     func(s *house.State) { s.Orders = ordered(64) },
		"an order more": func(s *house.State) { s.Orders = append(s.Orders, api.Order{ID: 4, Product: 16, Units: end}) },
		"no certs":      func(s *house.State) { s.Certs = nil },
		"a lot's twice": func(s *house.State) { s.Certs[1].Lot = 4 },
		"ends": func(s *house.State) {
			s.Certs[1] = api.Cert{ID: 2, Order: most, Lot: 5, Product: 1, Units: most, Minute: 20, Exposure: most, Allowance: most}
		},
		"noughts": func(s *house.State) { s.Certs[1] = api.Cert{ID: 2, Lot: 5, Product: 1} },
		"another state": func(s *house.State) {
			s.Orders[0].State, s.Orders[1].State, s.Orders[2].State = shipped, open, allocated
		},
		"a lot of it":    func(s *house.State) { s.Lots[5].Order = 1 },
		"no lots of any": func(s *house.State) { s.Orders = s.Orders[:0]; s.Certs = nil; s.Lots = nil },
	}.try(t)
}

func ordered(n int) (l []api.Order) {
	for at := range n {
		l = append(l, api.Order{ID: at + 1, Product: 1, Units: 5})
	}
	return l
}

// P19.1, H2: what a house has, written out.
func TestDump(t *testing.T) {
	p := gone(t)
	p.ok(1, door(2, 3, 4, true), air(1, 4, 0, 66), air(1, 2, 9, 30), air(3, 0, 0, 20))
	p.ok(4, receive(2, 2, 6, 77))
	p.ok(5, split(4, 2))
	p.ok(0, merge(4, 5))
	want := house.State{
		Now: 10, Given: 5,
		Zones:    []api.Zone{{ID: 1, Worst: 40, Gap: 5, Room: 1000, Dock: true, Ajar: 3}, {ID: 2, Worst: 40, Room: 60}, {ID: 3, Worst: 50, Gap: 5, Room: 2000, Dock: true, Ajar: 1}},
		Products: []api.Product{{ID: 1, Limit: 40, Budget: 100}, {ID: 2, Limit: 40}},
		Readings: [][]api.Reading{{{Minute: 2, Seq: 9, Tenths: 30}, {Minute: 4, Tenths: 66}}, nil, {{Tenths: 20}}},
		Marks:    [][]api.Mark{nil, {{Minute: 3, Seq: 4, Open: true}}, nil},
		Lots: []api.Lot{
			{ID: 1, Product: 1, Units: 5, Expiry: 50, Order: 1, Status: api.Shipped, Stays: []api.Stay{stay(1, 0, 10)}},
			{ID: 2, Product: 1, Units: 5, Expiry: 50, Grant: 7, Order: 1, Status: api.Shipped, Stays: []api.Stay{stay(1, 0, 7), stay(3, 7, 8), stay(1, 8, 10)}},
			{ID: 3, Product: 1, Units: 5, Expiry: 50, Order: 1, Status: api.Shipped, Stays: []api.Stay{stay(1, 8, 10)}},
			{ID: 4, Product: 2, Units: 6, Expiry: 77, Stays: []api.Stay{on(2, 10)}},
		},
		Orders: []api.Order{{ID: 1, Product: 1, Units: 15, State: shipped}},
		Certs:  []api.Cert{{ID: 1, Order: 1, Lot: 1, Product: 1, Units: 5, Minute: 10, Allowance: 100}, {ID: 2, Order: 1, Lot: 2, Product: 1, Units: 5, Minute: 10, Exposure: 10, Allowance: 107}, {ID: 3, Order: 1, Lot: 3, Product: 1, Units: 5, Minute: 10, Allowance: 100}},
	}
	if s := p.h.Dump(); fmt.Sprint(s) != fmt.Sprint(want) {
		t.Errorf("Dump: %v\nnot %v", s, want)
	}
	canBe(t, "dumped", p.h.Dump())
	made(t, p.h.Dump()).ok(6, receive(2, 2, 1, 77)) // lot 5 is gone, its ID too
}

// spoil writes something else into all that a state's lists have, up to their capacity.
func spoil(s house.State) {
	fill(s.Zones, api.Zone{ID: 7, Room: 1})
	fill(s.Products, api.Product{ID: 7})
	for at := range s.Readings {
		fill(s.Readings[at], api.Reading{Minute: 19, Seq: 77, Tenths: 999})
	}
	for at := range s.Marks {
		fill(s.Marks[at], api.Mark{Minute: 19, Seq: 77, Open: true})
	}
	for at := range s.Lots {
		fill(s.Lots[at].Stays, on(7, 7))
	}
	fill(s.Readings, []api.Reading{{Minute: 7}})
	fill(s.Marks, []api.Mark{{Minute: 7}})
	fill(s.Lots, api.Lot{ID: 77})
	fill(s.Orders, api.Order{ID: 77})
	fill(s.Certs, api.Cert{ID: 77})
}

func fill[T any](l []T, x T) {
	l = l[:cap(l)]
	for at := range l {
		l[at] = x
	}
}

// roomy is a list that has more behind its length.
func roomy[T any](l []T, behind T) []T {
	return append(append(make([]T, 0, len(l)+3), l...), behind, behind, behind)[:len(l)]
}

// P19.1, rule 4: a state that is changed behind Make, or behind Dump, changes no house, nor does what a house does change one.
func TestStateApart(t *testing.T) {
	s := full()
	s.Zones, s.Products, s.Orders, s.Certs = roomy(s.Zones, api.Zone{ID: 16}), roomy(s.Products, api.Product{ID: 16}), roomy(s.Orders, api.Order{ID: 4}), roomy(s.Certs, api.Cert{ID: 3})
	s.Readings, s.Marks, s.Lots = roomy(s.Readings, nil), roomy(s.Marks, nil), roomy(s.Lots, api.Lot{ID: 8})
	for at := range s.Lots {
		s.Lots[at].Stays = roomy(s.Lots[at].Stays, on(16, 20))
	}
	for at := range s.Readings {
		s.Readings[at], s.Marks[at] = roomy(s.Readings[at], api.Reading{Seq: 16}), roomy(s.Marks[at], api.Mark{Seq: 16})
	}
	before := fmt.Sprint(s, s.Zones[:4], s.Lots[:7], s.Lots[0].Stays[:5], s.Readings[0][:5], s.Marks[2][:5], s.Orders[:5], s.Certs[:4])
	h, e := house.Make(s)
	if e != api.OK {
		t.Fatalf("Make: error %d", e)
	}
	busy(t, h)
	if after := fmt.Sprint(s, s.Zones[:4], s.Lots[:7], s.Lots[0].Stays[:5], s.Readings[0][:5], s.Marks[2][:5], s.Orders[:5], s.Certs[:4]); after != before {
		t.Errorf("changed by the house: %s\nwas %s", after, before)
	}
	p, q := made(t, full()), made(t, full())
	busy(t, p.h)
	spoil(s)
	if fmt.Sprint(h.Dump()) != fmt.Sprint(p.h.Dump()) {
		t.Errorf("a state that was spoilt changed a house: %v", h.Dump())
	}
	first := fmt.Sprint(h.Dump())
	for range 2 {
		spoil(h.Dump())
		a := h.Dump()
		spoil(h.Dump())
		if fmt.Sprint(a) != first || fmt.Sprint(h.Dump()) != first {
			t.Errorf("what was told, and spoilt then, changed the house, or what was told ahead: %v", h.Dump())
		}
	}
	told := q.h.Dump()
	busy(t, q.h)
	if fmt.Sprint(told) != fmt.Sprint(full()) {
		t.Errorf("what was told is changed by what the house does: %v", told)
	}
}

// busy does some of all in a full house.
func busy(t *testing.T, h *house.House) {
	t.Helper()
	for _, c := range []api.Command{ship(2), air(2, 3, 1, 50), air(2, 1, 1, 30), door(3, 1, 1, true), door(9, 7, 1, true), tick(1), addZone(api.Zone{ID: 1, Room: 9, Worst: 50}), addZone(api.Zone{ID: 4, Dock: true}), addProduct(2, 1, 1), receive(5, 1, 2, 50), move(7, 1), split(7, 2), hold(2), review(6, 900), want(1, 3), allocate(4), allocate(1), free(4), free(1), reject(2)} {
		if _, e := h.Do(c); e != api.OK && e != api.ErrFull && e != api.ErrShort && e != api.ErrState {
			t.Fatalf("%v: error %d", c, e)
		}
	}
}

// P19.1, rule 4: the Bytes that are handed in, and what lies behind them, stay as they were, and are not kept; what is told is new memory.
func TestToldApart(t *testing.T) {
	p := gone(t)
	p.ok(1, door(1, 2, 3, true), door(1, 7, 3, false))
	c := air(1, 4, 0, 80)
	c.Bytes = append(slices.Clone(c.Bytes), 1, 2, 3)[:len(c.Bytes)]
	was := slices.Clone(c.Bytes[:cap(c.Bytes)])
	p.ok(1, c)
	if !slices.Equal(c.Bytes[:cap(c.Bytes)], was) {
		t.Errorf("Bytes: %v, not %v", c.Bytes[:cap(c.Bytes)], was)
	}
	fill(c.Bytes, 9)
	p.have("Bytes that were spoilt")
	for range 2 {
		p.flags(1, 2)
		fill(p.h.Recall(), 9)
		l, _ := p.h.Alarms(1)
		if !slices.Equal(l, []api.Run{{From: 2, To: 7}}) {
			t.Errorf("Alarms: %v", l)
		}
		fill(l, api.Run{From: 9})
	}
}
