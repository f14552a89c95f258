package field

import (
	"maps"
	"slices"

	"canvass/api"
	"canvass/fresh"
	"canvass/interview"
)

// Create creates a case, which a device has (L5).
func (d *Device) Create(id int, seed string, to, minute int) api.Fault {
	e := api.Event{Kind: api.EvCreate, Minute: minute, Case: id, Seed: seed, To: to}
	return d.call(&e, func(b *book) api.Fault {
		if !isCase(id) || !isDevice(to) {
			return api.ErrRange
		}
		if fault := interview.CheckSeed(seed); fault != api.OK {
			return fault
		}
		if b.cases[id] != nil {
			return api.ErrTwice
		}
		return api.OK
	})
}

// Assign gives a case to a device (L5).
func (d *Device) Assign(id, to, minute int) api.Fault {
	e := api.Event{Kind: api.EvAssign, Minute: minute, Case: id, To: to}
	return d.call(&e, func(b *book) api.Fault {
		if b.cases[id] == nil {
			return api.ErrNone
		}
		if !isDevice(to) {
			return api.ErrRange
		}
		return api.OK
	})
}

// Grant gives a device a permit for a cell, and returns its number (L5).
func (d *Device) Grant(cell, to, minute int) (int, api.Fault) {
	e := api.Event{Kind: api.EvGrant, Minute: minute, To: to, Cell: cell}
	fault := d.call(&e, func(b *book) api.Fault {
		if !b.isCell(cell) || !isDevice(to) {
			return api.ErrRange
		}
		if b.isLost(to) {
			return api.ErrState
		}
		if b.filled[cell]+b.out(cell) >= b.targets[cell] {
			return api.ErrFull
		}
		e.Permit = b.next()
		if !isPermit(e.Permit) {
			return api.ErrLarge
		}
		return api.OK
	})
	if fault != api.OK {
		return 0, fault
	}
	return e.Permit, api.OK
}

// WriteOff writes a device off: none of its events behind those in the set counts (L5).
func (d *Device) WriteOff(device, minute int) api.Fault {
	e := api.Event{Kind: api.EvWriteOff, Minute: minute, To: device, Last: d.set.last[device]}
	return d.call(&e, func(b *book) api.Fault {
		if !isDevice(device) {
			return api.ErrRange
		}
		if b.isLost(device) {
			return api.ErrState
		}
		return api.OK
	})
}

// Answer gives an answer to a question of a case (L5).
func (d *Device) Answer(id int, g api.Given, minute int) api.Fault {
	e := api.Event{Kind: api.EvAnswer, Minute: minute, Case: id, Given: []api.Given{fresh.Given(g)}}
	return d.call(&e, func(b *book) api.Fault {
		c, fault := b.ownCase(id, d.number)
		if fault != api.OK {
			return fault
		}
		answer, fault := b.AnswersOf(e.Given)
		if fault != api.OK {
			return fault
		}
		route, fault := b.RouteOf(c.seed, c.answers)
		if fault != api.OK {
			return fault
		}
		if fault := b.mayAnswer(route, g); fault != api.OK {
			return fault
		}
		_, fault = b.RouteOf(c.seed, with(maps.Clone(c.answers), answer))
		return fault
	})
}

// mayAnswer says whether an answer can be given to a question of a route, or taken back.
func (b *book) mayAnswer(route api.Route, g api.Given) api.Fault {
	n := slices.IndexFunc(route.Asked, func(a api.Asked) bool { return sameKey(a.Key, g.Key) })
	if n < 0 {
		return api.ErrState
	}
	if g.Value.Kind == api.Missing {
		return api.OK
	}
	return b.Accept(g.Key.Name, g.Value, route.Asked[n].Offered)
}

// Complete completes a case, with a permit for its cell, if it has one (L5).
func (d *Device) Complete(id, minute int) api.Fault {
	e := api.Event{Kind: api.EvComplete, Minute: minute, Case: id}
	return d.call(&e, func(b *book) api.Fault {
		c, fault := b.ownCase(id, d.number)
		if fault != api.OK {
			return fault
		}
		route, fault := b.RouteOf(c.seed, c.answers)
		if fault != api.OK {
			return fault
		}
		if fault := firstOpen(route); fault != api.OK {
			return fault
		}
		e.Given, e.Cell = b.DataOf(route), b.cellOf(route)
		if e.Cell >= 0 {
			e.Permit = b.least(e.Cell, d.number)
			if e.Permit == 0 {
				return api.ErrFull
			}
		}
		return api.OK
	})
}

// Return gives a permit back (L5). While it is PermitOut, an EvComplete of its device that has it is not refused.
func (d *Device) Return(permit, minute int) api.Fault {
	e := api.Event{Kind: api.EvReturn, Minute: minute, Permit: permit}
	return d.call(&e, func(b *book) api.Fault {
		own := b.permits[permit]
		if own == nil || own.device != d.number {
			return api.ErrNone
		}
		if b.permitState(own) != api.PermitOut || own.isTried {
			return api.ErrState
		}
		return api.OK
	})
}

// call adds an event of the device, unless there is an error that all calls have, or one of its own, which a function tells.
func (d *Device) call(e *api.Event, own func(b *book) api.Fault) api.Fault {
	switch {
	case !mayMake(e.Kind, d.number):
		return api.ErrDevice
	case !isMinute(e.Minute):
		return api.ErrRange
	case len(d.set.list) >= api.MaxEvents || d.set.clock() >= api.MaxClock:
		return api.ErrLarge
	}
	if fault := own(d.told()); fault != api.OK {
		return fault
	}
	e.Clock, e.Device, e.Number = d.set.clock()+1, d.number, d.set.last[d.number]+1
	d.take([]*record{{Event: *e}})
	return api.OK
}

// ownCase returns a case that a device has and that is not complete.
func (b *book) ownCase(id, device int) (*file, api.Fault) {
	c := b.cases[id]
	switch {
	case c == nil:
		return nil, api.ErrNone
	case c.completion != nil:
		return nil, api.ErrClosed
	case c.device != device:
		return nil, api.ErrDevice
	}
	return c, api.OK
}
