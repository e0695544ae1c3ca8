package model

import (
	"slices"

	"hoarfrost/api"
	"hoarfrost/command"
	"hoarfrost/fefo"
	"hoarfrost/keep"
	"hoarfrost/stays"
)

// do does a command, and tells its number. With an error the things may be left as they have become, as the model drops them then.
func (t *things) do(c api.Command) (int, api.Errno) {
	if !command.Right(c) {
		return 0, api.ErrForm
	}
	if c.Kind == api.Sense {
		return t.sense(c.Bytes)
	}
	t.settle()
	switch c.Kind {
	case api.Tick:
		return t.tick(c.A)
	case api.AddZone:
		return t.addZone(c)
	case api.AddProduct:
		return t.addProduct(api.Product{ID: c.A, Limit: c.B, Budget: c.C})
	case api.Receive:
		return t.receive(c)
	case api.Move:
		return 0, t.move(c.A, c.B)
	case api.Split:
		return t.split(c.A, c.B)
	case api.Merge:
		return 0, t.merge(c.A, c.B)
	case api.Want:
		return t.want(c.A, c.B)
	case api.Allocate:
		return t.allocate(c.A)
	case api.Free:
		return 0, t.letGo(c.A)
	case api.Ship:
		return t.ship(c.A)
	}
	return 0, t.become(c)
}

// tick lets minutes go by, and tells now.
func (t *things) tick(minutes int) (int, api.Errno) {
	// What is left is asked for, as now and any number may be no int any more.
	if left := api.MaxMinute - 1 - t.Now; minutes < 1 || minutes > left {
		return 0, api.ErrArg
	}
	t.Now += minutes
	return t.Now, api.OK
}

// addZone adds a zone, in which nothing was heard, and tells its ID.
func (t *things) addZone(c api.Command) (int, api.Errno) {
	z := api.Zone{ID: c.A, Worst: c.B, Gap: c.C, Room: c.D, Dock: c.E%2 == 1, Ajar: c.E / 2}
	// E is asked for itself, as half of -1 is nothing.
	if c.E < 0 || !mayBeZone(z) {
		return 0, api.ErrArg
	}
	at, there := t.zone(z.ID)
	if there {
		return 0, api.ErrTwice
	}
	t.Zones = slices.Insert(t.Zones, at, z)
	t.Readings, t.Marks = slices.Insert(t.Readings, at, nil), slices.Insert(t.Marks, at, nil)
	return z.ID, api.OK
}

// addProduct adds a product, and tells its ID.
func (t *things) addProduct(p api.Product) (int, api.Errno) {
	if !mayBeProduct(p) {
		return 0, api.ErrArg
	}
	at, there := t.product(p.ID)
	if there {
		return 0, api.ErrTwice
	}
	t.Products = slices.Insert(t.Products, at, p)
	return p.ID, api.OK
}

// receive lets a lot come, and tells its ID.
func (t *things) receive(c api.Command) (int, api.Errno) {
	l := api.Lot{Product: c.A, Units: c.C, Expiry: c.D, Status: api.Quarantine}
	if !areUnits(l.Units) || !isMinute(l.Expiry) {
		return 0, api.ErrArg
	}
	_, isProduct := t.product(l.Product)
	zone, isZone := t.zone(c.B)
	if !isProduct || !isZone {
		return 0, api.ErrNone
	}
	if t.isFull() || !t.hasRoom(t.Zones[zone], l.Units) {
		return 0, api.ErrFull
	}
	// There is no error, as it was nowhere yet.
	l.Stays, _ = stays.Enter(nil, c.B, t.Now)
	return t.add(l), api.OK
}

// move lets a lot be in a zone from now on.
func (t *things) move(id, zone int) api.Errno {
	l := t.lot(id)
	at, there := t.zone(zone)
	if l == nil || !there {
		return api.ErrNone
	}
	switch t.zoneOf(*l) {
	case nowhere:
		return api.ErrState
	case zone:
		return api.OK
	}
	if !t.hasRoom(t.Zones[at], l.Units) {
		return api.ErrFull
	}
	s, e := stays.Enter(l.Stays, zone, t.Now)
	l.Stays = s
	return e
}

// split lets a new lot have so many of a lot's units, and tells its ID.
func (t *things) split(id, units int) (int, api.Errno) {
	l := t.lot(id)
	switch {
	case l == nil:
		return 0, api.ErrNone
	case units < 1 || units >= l.Units:
		return 0, api.ErrArg
	case t.zoneOf(*l) == nowhere:
		return 0, api.ErrState
	case t.isFull():
		return 0, api.ErrFull
	}
	other := *l
	other.Units = units
	l.Units -= units
	return t.add(other), api.OK
}

// merge lets a lot have another one's units, too, which is gone then.
func (t *things) merge(into, from int) api.Errno {
	l, other := t.lot(into), t.lot(from)
	switch {
	case l == nil || other == nil:
		return api.ErrNone
	case into == from:
		return api.ErrArg
	case t.zoneOf(*l) == nowhere:
		return api.ErrState
	case !areAlike(*l, *other):
		return api.ErrUnlike
	}
	l.Units += other.Units
	t.Lots = slices.DeleteFunc(t.Lots, func(l api.Lot) bool { return l.ID == from })
	return api.OK
}

// become is what Release, Hold, Review, and Reject do: a lot is what it becomes by them, and the order that it had, and has no more, is let go.
func (t *things) become(c api.Command) api.Errno {
	l := t.lot(c.A)
	if l == nil {
		return api.ErrNone
	}
	other, e := t.judged(c, *l)
	if e != api.OK {
		return e
	}
	had := l.Order
	*l = other
	if had != other.Order {
		t.letGo(had)
	}
	return api.OK
}

// judged is what a lot becomes by Release, Hold, Review, or Reject.
func (t *things) judged(c api.Command, l api.Lot) (api.Lot, api.Errno) {
	switch c.Kind {
	case api.Release:
		return keep.Release(t.productOf(l), l, t.exposure(l, t.Now))
	case api.Review:
		return keep.Review(t.productOf(l), l, t.exposure(l, t.Now), c.B)
	case api.Hold:
		return keep.Hold(l)
	}
	return keep.Reject(l)
}

// want lets an order come, and tells its ID.
func (t *things) want(product, units int) (int, api.Errno) {
	if _, there := t.product(product); !there {
		return 0, api.ErrNone
	}
	if !areUnits(units) {
		return 0, api.ErrArg
	}
	if len(t.Orders) >= api.MaxOrders {
		return 0, api.ErrFull
	}
	o := api.Order{ID: len(t.Orders) + 1, Product: product, Units: units, State: open}
	t.Orders = append(t.Orders, o)
	return o.ID, api.OK
}

// allocate picks lots for an order, and tells how many.
func (t *things) allocate(id int) (int, api.Errno) {
	if e := t.turn(id, open, allocated); e != api.OK {
		return 0, e
	}
	o := t.Orders[id-1]
	takes, e := fefo.Pick(t.ready(o.Product), o.Product, o.Units)
	if e != api.OK {
		return 0, e
	}
	for _, take := range takes {
		if e := t.give(take, id); e != api.OK {
			return 0, e
		}
	}
	return len(takes), api.OK
}

// ready are the lots of a product that have no order, and may be allocated.
func (t *things) ready(product int) []api.Lot {
	var l []api.Lot
	for _, lot := range t.Lots {
		if lot.Product == product && lot.Order == noOrder && t.may(lot) == api.OK {
			l = append(l, lot)
		}
	}
	return l
}

// may tells whether a lot may be allocated, or shipped, now.
func (t *things) may(l api.Lot) api.Errno {
	return keep.May(t.productOf(l), l, t.exposure(l, t.Now), t.Now)
}

// give lets an order have a lot, or, of one that is taken in part, a new one, of these units.
func (t *things) give(take fefo.Take, order int) api.Errno {
	id := take.Lot
	if take.Units < t.lot(id).Units {
		other, e := t.split(id, take.Units)
		if e != api.OK {
			return e
		}
		id = other
	}
	t.lot(id).Order = order
	return api.OK
}

// ship lets an order's lots leave, each with a certificate, and tells how many they are.
func (t *things) ship(id int) (int, api.Errno) {
	if e := t.turn(id, allocated, shipped); e != api.OK {
		return 0, e
	}
	count := 0
	for at, l := range t.Lots {
		if l.Order != id {
			continue
		}
		if e := t.mayLeave(l); e != api.OK {
			return 0, e
		}
		t.Certs = append(t.Certs, t.cert(l))
		l.Status = api.Shipped
		// There is no error, as it is in a zone.
		l.Stays, _ = stays.Leave(l.Stays, t.Now)
		t.Lots[at] = l
		count++
	}
	return count, api.OK
}

// mayLeave tells whether a lot may be shipped from where it is.
func (t *things) mayLeave(l api.Lot) api.Errno {
	if e := t.may(l); e != api.OK {
		return e
	}
	if at, there := t.zone(t.zoneOf(l)); !there || !t.Zones[at].Dock {
		return api.ErrDock
	}
	return api.OK
}

// cert is the next certificate, that of a lot that is shipped now.
func (t *things) cert(l api.Lot) api.Cert {
	return api.Cert{
		ID:        len(t.Certs) + 1,
		Order:     l.Order,
		Lot:       l.ID,
		Product:   l.Product,
		Units:     l.Units,
		Minute:    t.Now,
		Exposure:  t.exposure(l, t.Now),
		Allowance: keep.Allowance(t.productOf(l), l),
	}
}

// areAlike tells whether two lots differ in nothing but ID and Units.
func areAlike(a, b api.Lot) bool {
	return a.Product == b.Product && a.Expiry == b.Expiry && a.Grant == b.Grant && a.Order == b.Order && a.Status == b.Status && stays.Same(a.Stays, b.Stays)
}

// mayBeZone tells whether a zone may be.
func mayBeZone(z api.Zone) bool {
	return isID(z.ID, api.MaxZones) && isTenth(z.Worst) && isMinute(z.Gap) && 0 <= z.Room && z.Room <= api.MaxUnits && isMinute(z.Ajar)
}

// mayBeProduct tells whether a product may be.
func mayBeProduct(p api.Product) bool {
	return isID(p.ID, api.MaxProducts) && isTenth(p.Limit) && 0 <= p.Budget && p.Budget <= api.Most
}

func isID(n, last int) bool { return 1 <= n && n <= last }

func isTenth(n int) bool { return -api.Top <= n && n <= api.Top }

func isMinute(n int) bool { return 0 <= n && n < api.MaxMinute }

func areUnits(n int) bool { return 1 <= n && n <= api.MaxUnits }
