package model

import (
	"cmp"
	"slices"

	"hoarfrost/api"
	"hoarfrost/house"
	"hoarfrost/keep"
	"hoarfrost/stays"
)

// noOrder is the Order of a lot that has none; nowhere is no zone's ID.
const (
	noOrder = 0
	nowhere = 0
)

// The states of an order.
const (
	open = iota
	allocated
	shipped
)

// things are what a model has: a state, of which exposures are no part, so that they are reckoned anew each time.
type things struct{ house.State }

// apart has the same in lists of its own, so that what is done to them is gone with it. It shares what just a Sense changes, which has no error then, and lots' stays, which nobody writes into.
func (t *things) apart() things {
	other := *t
	other.Zones, other.Products = slices.Clone(t.Zones), slices.Clone(t.Products)
	other.Readings, other.Marks = slices.Clone(t.Readings), slices.Clone(t.Marks)
	other.Lots, other.Orders, other.Certs = slices.Clone(t.Lots), slices.Clone(t.Orders), slices.Clone(t.Certs)
	return other
}

// state is the same as new memory, all of it.
func (t *things) state() house.State {
	s := t.apart().State
	for at := range s.Zones {
		s.Readings[at], s.Marks[at] = slices.Clone(s.Readings[at]), slices.Clone(s.Marks[at])
	}
	for at := range s.Lots {
		s.Lots[at].Stays = slices.Clone(s.Lots[at].Stays)
	}
	return s
}

// place is where the thing of an ID stands in a list, by IDs, rising, or would stand; and whether it is there.
func place[T any](l []T, id int, idOf func(T) int) (int, bool) {
	return slices.BinarySearchFunc(l, id, func(x T, id int) int { return cmp.Compare(idOf(x), id) })
}

// zone is the place of a zone, and of what was heard in it; and whether it is there.
func (t *things) zone(id int) (int, bool) {
	return place(t.Zones, id, func(z api.Zone) int { return z.ID })
}

// product is the place of a product; and whether it is there.
func (t *things) product(id int) (int, bool) {
	return place(t.Products, id, func(p api.Product) int { return p.ID })
}

// productOf is a lot's, which is there, as no lot comes without.
func (t *things) productOf(l api.Lot) api.Product {
	at, _ := t.product(l.Product)
	return t.Products[at]
}

// lot is the one of an ID, where it stands; nil, if there is none.
func (t *things) lot(id int) *api.Lot {
	at, there := place(t.Lots, id, func(l api.Lot) int { return l.ID })
	if !there {
		return nil
	}
	return &t.Lots[at]
}

// zoneOf is the zone that a lot is in; nowhere, if it is in none.
func (t *things) zoneOf(l api.Lot) int {
	return stays.Zone(l.Stays, t.Now)
}

// hasRoom tells whether so many units more may be in a zone.
func (t *things) hasRoom(z api.Zone, units int) bool {
	load := units
	for _, l := range t.Lots {
		if t.zoneOf(l) == z.ID {
			load += l.Units
		}
	}
	return load <= z.Room
}

// isFull tells whether no lot's ID is left; those of lots that are gone don't come again.
func (t *things) isFull() bool {
	return t.Given >= api.MaxLots
}

// add gives a lot the next ID, which is told.
func (t *things) add(l api.Lot) int {
	t.Given++
	l.ID = t.Given
	t.Lots = append(t.Lots, l)
	return l.ID
}

// settle holds each lot that is over, and lets go the orders that had one of them.
func (t *things) settle() {
	for at, l := range t.Lots {
		// Nothing else is held for what it has gone through, so that it needn't be reckoned.
		if l.Status != api.Released {
			continue
		}
		if held, isOver := keep.Judge(t.productOf(l), l, t.exposure(l, t.Now)); isOver {
			t.Lots[at] = held
			t.letGo(l.Order)
		}
	}
}

// turn lets an order that is in the one state be in the other one; ErrNone, if there is no such order; ErrState, if it is in another one.
func (t *things) turn(id, from, to int) api.Errno {
	switch {
	case id < 1 || id > len(t.Orders):
		return api.ErrNone
	case t.Orders[id-1].State != from:
		return api.ErrState
	}
	t.Orders[id-1].State = to
	return api.OK
}

// letGo lets an order be open again, and its lots have none; if it is not allocated, or there is none, nothing happens, as the error says.
func (t *things) letGo(id int) api.Errno {
	if e := t.turn(id, allocated, open); e != api.OK {
		return e
	}
	for at := range t.Lots {
		if t.Lots[at].Order == id {
			t.Lots[at].Order = noOrder
		}
	}
	return api.OK
}
