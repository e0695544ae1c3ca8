package house

import (
	"hoarfrost/api"
	"hoarfrost/door"
	"hoarfrost/fefo"
	"hoarfrost/frame"
	"hoarfrost/keep"
	"hoarfrost/status"
	"hoarfrost/stays"
)

// noOrder is the Order of a lot that has none; nowhere is no zone's ID.
const (
	noOrder = 0
	nowhere = 0
)

// deed is what a kind of commands does in a house, and tells. With an error it may leave the stock and the orders as they have become, as Do drops them then, but nothing else.
type deed func(h *House, c api.Command) (int, api.Errno)

// deeds has what each kind does.
func deeds() map[api.Kind]deed {
	return map[api.Kind]deed{
		api.Sense:      (*House).sense,
		api.Tick:       (*House).tick,
		api.AddZone:    (*House).addZone,
		api.AddProduct: (*House).addProduct,
		api.Receive:    (*House).receive,
		api.Move:       (*House).move,
		api.Split:      (*House).split,
		api.Merge:      (*House).merge,
		api.Release:    (*House).release,
		api.Hold:       (*House).hold,
		api.Review:     (*House).review,
		api.Reject:     (*House).reject,
		api.Want:       (*House).want,
		api.Allocate:   (*House).allocate,
		api.Free:       (*House).free,
		api.Ship:       (*House).ship,
	}
}

// sense hears a frame, and tells 1, if that changed anything. It is done in the house itself, so that nothing changes ahead of an error.
func (h *House) sense(c api.Command) (int, api.Errno) {
	f, e := frame.Decode(c.Bytes)
	if e != api.OK {
		return 0, e
	}
	if _, e := h.master.Zone(f.Zone); e != api.OK {
		return 0, e
	}
	if f.Minute > h.now {
		return 0, api.ErrFuture
	}
	changed, e := h.hear(f)
	if changed {
		return 1, e
	}
	return 0, e
}

// hear puts what a frame says where it belongs, and tells whether anything changed there.
func (h *House) hear(f api.Frame) (bool, api.Errno) {
	if f.Door {
		return h.doors[f.Zone].Put(api.Mark{Minute: f.Minute, Seq: f.Seq, Open: f.Open})
	}
	// There is no error, as a frame of bytes has tenths, if it is none of a door.
	tenths, _ := frame.Tenths(f)
	return h.ledger.Put(f.Zone, api.Reading{Minute: f.Minute, Seq: f.Seq, Tenths: tenths})
}

// tick lets minutes go by, and tells now.
func (h *House) tick(c api.Command) (int, api.Errno) {
	// What is left is asked for, as now and any number may be no int any more.
	if left := api.MaxMinute - 1 - h.now; c.A < 1 || c.A > left {
		return 0, api.ErrArg
	}
	h.now += c.A
	return h.now, api.OK
}

// addZone adds a zone, and tells its ID.
func (h *House) addZone(c api.Command) (int, api.Errno) {
	if c.E < 0 {
		return 0, api.ErrArg
	}
	return c.A, h.open(api.Zone{ID: c.A, Worst: c.B, Gap: c.C, Room: c.D, Dock: c.E%2 == 1, Ajar: c.E / 2})
}

// open lets a zone be there, with all that belongs to it; the master's error.
func (h *House) open(z api.Zone) api.Errno {
	if e := h.master.AddZone(z); e != api.OK {
		return e
	}
	h.doors[z.ID] = door.New()
	// A zone that a master takes, a ledger takes, too.
	return h.ledger.AddZone(z)
}

// addProduct adds a product, and tells its ID.
func (h *House) addProduct(c api.Command) (int, api.Errno) {
	return c.A, h.master.AddProduct(api.Product{ID: c.A, Limit: c.B, Budget: c.C})
}

// receive lets a lot come, and tells its ID.
func (h *House) receive(c api.Command) (int, api.Errno) {
	return h.stock.Receive(h.master, c.A, c.B, c.C, c.D, h.now)
}

// move lets a lot be in a zone from now on.
func (h *House) move(c api.Command) (int, api.Errno) {
	return 0, h.stock.Move(h.master, c.A, c.B, h.now)
}

// split lets a new lot have so many of a lot's units, and tells its ID.
func (h *House) split(c api.Command) (int, api.Errno) {
	return h.stock.Split(c.A, c.B)
}

// merge lets a lot have another one's units, too, which is gone then.
func (h *House) merge(c api.Command) (int, api.Errno) {
	return 0, h.stock.Merge(c.A, c.B)
}

// release releases a lot.
func (h *House) release(c api.Command) (int, api.Errno) {
	return h.turn(c.A, func(l api.Lot) (api.Lot, api.Errno) {
		return keep.Release(h.product(l), l, h.exposure(l, h.now))
	})
}

// hold holds a lot, and lets go the order that it had.
func (h *House) hold(c api.Command) (int, api.Errno) {
	return h.turn(c.A, keep.Hold)
}

// review accepts a lot that was held, with a grant.
func (h *House) review(c api.Command) (int, api.Errno) {
	return h.turn(c.A, func(l api.Lot) (api.Lot, api.Errno) {
		return keep.Review(h.product(l), l, h.exposure(l, h.now), c.B)
	})
}

// reject rejects a lot, and lets go the order that it had.
func (h *House) reject(c api.Command) (int, api.Errno) {
	return h.turn(c.A, keep.Reject)
}

// turn lets a lot be what it becomes; if it has another order then, the one that it had is let go.
func (h *House) turn(id int, step func(api.Lot) (api.Lot, api.Errno)) (int, api.Errno) {
	l, e := h.stock.Lot(id)
	if e != api.OK {
		return 0, e
	}
	other, e := step(l)
	if e != api.OK {
		return 0, e
	}
	h.become(other)
	if other.Order != l.Order {
		h.letGoOf(l)
	}
	return 0, api.OK
}

// want lets an order come, and tells its ID.
func (h *House) want(c api.Command) (int, api.Errno) {
	if _, e := h.master.Product(c.A); e != api.OK {
		return 0, e
	}
	return h.orders.Want(c.A, c.B)
}

// allocate picks lots for an order, and tells how many.
func (h *House) allocate(c api.Command) (int, api.Errno) {
	if e := h.orders.Allocate(c.A); e != api.OK {
		return 0, e
	}
	// It is there, as it was allocated.
	o, _ := h.orders.Order(c.A)
	takes, e := fefo.Pick(h.ready(), o.Product, o.Units)
	if e != api.OK {
		return 0, e
	}
	for _, t := range takes {
		if e := h.give(t, o.ID); e != api.OK {
			return 0, e
		}
	}
	return len(takes), api.OK
}

// ready are the lots that have no order, and may be allocated.
func (h *House) ready() []api.Lot {
	var l []api.Lot
	for _, lot := range h.lotsOf(noOrder) {
		if h.may(lot) == api.OK {
			l = append(l, lot)
		}
	}
	return l
}

// may tells whether a lot may be allocated, or shipped, now.
func (h *House) may(l api.Lot) api.Errno {
	return keep.May(h.product(l), l, h.exposure(l, h.now), h.now)
}

// give lets an order have a lot, or, of one that is taken in part, a new one, of these units.
func (h *House) give(t fefo.Take, order int) api.Errno {
	// It is there, as it was picked.
	l, _ := h.stock.Lot(t.Lot)
	if t.Units < l.Units {
		other, e := h.stock.Split(t.Lot, t.Units)
		if e != api.OK {
			return e
		}
		// The new one is like the one that was split, in all that it becomes beside its order.
		l.ID = other
	}
	l.Order = order
	h.become(l)
	return api.OK
}

// free lets an order go.
func (h *House) free(c api.Command) (int, api.Errno) {
	return 0, h.letGo(c.A)
}

// ship lets an order's lots leave the house, each with a certificate, and tells how many they are.
func (h *House) ship(c api.Command) (int, api.Errno) {
	if e := h.orders.Ship(c.A); e != api.OK {
		return 0, e
	}
	lots := h.lotsOf(c.A)
	// All are asked ahead of the first one that leaves, as no certificate may be issued ahead of an error.
	for _, l := range lots {
		if e := h.mayLeave(l); e != api.OK {
			return 0, e
		}
	}
	for _, l := range lots {
		h.send(l)
	}
	return len(lots), api.OK
}

// mayLeave tells whether a lot may be shipped from where it is.
func (h *House) mayLeave(l api.Lot) api.Errno {
	if e := h.may(l); e != api.OK {
		return e
	}
	// Where it is in no zone, there is none of that ID, which is no dock either.
	z, _ := h.master.Zone(stays.Zone(l.Stays, h.now))
	if !z.Dock {
		return api.ErrDock
	}
	return api.OK
}

// send lets a lot that may leave do so, with a certificate. There is no error, as it is released, and somewhere.
func (h *House) send(l api.Lot) {
	h.certs.Issue(api.Cert{
		Order:     l.Order,
		Lot:       l.ID,
		Product:   l.Product,
		Units:     l.Units,
		Minute:    h.now,
		Exposure:  h.exposure(l, h.now),
		Allowance: keep.Allowance(h.product(l), l),
	})
	l.Status, _ = status.After(l.Status, status.ToShip)
	h.become(l)
	h.stock.Leave(l.ID, h.now)
}
