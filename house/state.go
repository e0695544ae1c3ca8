package house

import (
	"cmp"

	"hoarfrost/api"
	"hoarfrost/cert"
	"hoarfrost/order"
	"hoarfrost/stays"
)

// State is what a house has.
type State struct {
	Now, Given int
	Zones      []api.Zone
	Products   []api.Product
	Readings   [][]api.Reading // of each zone, in that order
	Marks      [][]api.Mark    // likewise
	Lots       []api.Lot
	Orders     []api.Order
	Certs      []api.Cert
}

// Dump is what the house has.
func (h *House) Dump() State {
	if h == nil {
		return State{}
	}
	s := State{
		Now:      h.now,
		Given:    h.stock.Given(),
		Zones:    h.master.Zones(),
		Products: h.master.Products(),
		Lots:     h.stock.Lots(),
		Orders:   h.orders.Orders(),
		Certs:    h.certs.All(),
	}
	for _, z := range s.Zones {
		s.Readings = append(s.Readings, h.ledger.Readings(z.ID))
		s.Marks = append(s.Marks, h.doors[z.ID].All())
	}
	return s
}

// Make is the house that has that; ErrArg, if there can't be such.
func Make(s State) (*House, api.Errno) {
	h := New()
	h.now = s.Now
	// Each of these asks what those ahead of it have taken.
	if !isMinute(s.Now) || !h.takesMaster(s) || !h.takesHeard(s) || !h.takesOrders(s) || !h.takesLots(s) || !h.takesCerts(s) {
		return nil, api.ErrArg
	}
	return h, api.OK
}

// takesMaster takes a state's zones and products, and tells whether there can be such.
func (h *House) takesMaster(s State) bool {
	for _, z := range s.Zones {
		if h.open(z) != api.OK {
			return false
		}
	}
	for _, p := range s.Products {
		if h.master.AddProduct(p) != api.OK {
			return false
		}
	}
	return rises(s.Zones, func(a, b api.Zone) int { return cmp.Compare(a.ID, b.ID) }) &&
		rises(s.Products, func(a, b api.Product) int { return cmp.Compare(a.ID, b.ID) })
}

// takesHeard takes a state's readings and marks, and tells whether there can be such.
func (h *House) takesHeard(s State) bool {
	if len(s.Readings) != len(s.Zones) || len(s.Marks) != len(s.Zones) {
		return false
	}
	for at, z := range s.Zones {
		if !h.takesReadings(z.ID, s.Readings[at]) || !h.takesMarks(z.ID, s.Marks[at]) {
			return false
		}
	}
	return true
}

// takesReadings takes a zone's readings, and tells whether there can be such.
func (h *House) takesReadings(zone int, l []api.Reading) bool {
	for _, r := range l {
		if _, e := h.ledger.Put(zone, r); e != api.OK || r.Minute > h.now {
			return false
		}
	}
	return rises(l, func(a, b api.Reading) int {
		return cmp.Or(cmp.Compare(a.Minute, b.Minute), cmp.Compare(a.Seq, b.Seq))
	})
}

// takesMarks takes a zone's marks, and tells whether there can be such.
func (h *House) takesMarks(zone int, l []api.Mark) bool {
	for _, m := range l {
		if _, e := h.doors[zone].Put(m); e != api.OK || m.Minute > h.now {
			return false
		}
	}
	return rises(l, func(a, b api.Mark) int {
		return cmp.Or(cmp.Compare(a.Minute, b.Minute), cmp.Compare(a.Seq, b.Seq))
	})
}

// takesOrders takes a state's orders, and tells whether there can be such.
func (h *House) takesOrders(s State) bool {
	b, e := order.Of(s.Orders)
	h.orders = b
	return e == api.OK
}

// takesLots takes a state's lots, and tells whether there can be such.
func (h *House) takesLots(s State) bool {
	for _, l := range s.Lots {
		if h.stock.Put(l) != api.OK || !h.knows(l) || l.Order > len(s.Orders) {
			return false
		}
	}
	return h.stock.Give(s.Given) == api.OK && h.hasRoom()
}

// knows tells whether a lot's product is there, and it was in zones that are there, up to now alone, and is in one just if it is not shipped.
func (h *House) knows(l api.Lot) bool {
	if _, e := h.master.Product(l.Product); e != api.OK {
		return false
	}
	for _, s := range l.Stays {
		if _, e := h.master.Zone(s.Zone); e != api.OK || s.From > h.now || s.To > h.now {
			return false
		}
	}
	isSomewhere := stays.Zone(l.Stays, h.now) != nowhere
	return isSomewhere != (l.Status == api.Shipped)
}

// hasRoom tells whether no zone's load is more than its Room.
func (h *House) hasRoom() bool {
	for _, z := range h.master.Zones() {
		if h.stock.Load(z.ID) > z.Room {
			return false
		}
	}
	return true
}

// takesCerts takes a state's certificates, and tells whether there can be such.
func (h *House) takesCerts(s State) bool {
	for _, c := range s.Certs {
		l, e := h.stock.Lot(c.Lot)
		if e != api.OK || l.Status != api.Shipped || l.Product != c.Product {
			return false
		}
		if !cert.Right(c) || c.Minute > h.now {
			return false
		}
		if id, e := h.certs.Issue(c); e != api.OK || id != c.ID {
			return false
		}
	}
	return true
}

// rises tells whether each of a list is behind the one ahead of it, by what compares two.
func rises[T any](l []T, compare func(a, b T) int) bool {
	for at := 1; at < len(l); at++ {
		if compare(l[at-1], l[at]) >= 0 {
			return false
		}
	}
	return true
}

// isMinute tells whether a number is a minute.
func isMinute(n int) bool {
	return 0 <= n && n < api.MaxMinute
}
