package field

import (
	"cmp"
	"slices"

	"canvass/api"
	"canvass/interview"
	"canvass/value"
)

// compareEvents orders events (L3).
func compareEvents(a, b api.Event) int {
	return cmp.Or(cmp.Compare(a.Clock, b.Clock), cmp.Compare(a.Device, b.Device), cmp.Compare(a.Number, b.Number))
}

// sameEvent reports whether events are equal in all fields.
func sameEvent(a, b api.Event) bool {
	return compareEvents(a, b) == 0 && a.Kind == b.Kind && a.Minute == b.Minute && a.Case == b.Case && a.Seed == b.Seed &&
		a.To == b.To && a.Cell == b.Cell && a.Permit == b.Permit && a.Last == b.Last && slices.EqualFunc(a.Given, b.Given, sameGiven)
}

func sameGiven(a, b api.Given) bool {
	return sameKey(a.Key, b.Key) && value.Compare(a.Value, b.Value) == 0
}

func sameKey(a, b api.Key) bool { return a.Name == b.Name && slices.Equal(a.Row, b.Row) }

// checkEvent says whether an event is sound (L3).
func (p *plan) checkEvent(e api.Event) api.Fault {
	if e.Kind < api.EvCreate || e.Kind > api.EvReturn {
		return api.ErrKind
	}
	if !sameEvent(unused(e), api.Event{}) {
		return api.ErrForm
	}
	if e.Clock < 1 || e.Clock > api.MaxClock || !isMaker(e.Device) || e.Number < 1 || e.Number > api.MaxEvents || !isMinute(e.Minute) {
		return api.ErrRange
	}
	if !mayMake(e.Kind, e.Device) {
		return api.ErrDevice
	}
	if !p.isInRange(e) {
		return api.ErrRange
	}
	if fault := interview.CheckSeed(e.Seed); fault != api.OK {
		return fault
	}
	if e.Kind == api.EvAnswer && len(e.Given) != 1 {
		return api.ErrForm
	}
	_, fault := p.AnswersOf(e.Given)
	return fault
}

// unused returns an event without the fields that its kind uses.
func unused(e api.Event) api.Event {
	kind := e.Kind
	e.Clock, e.Device, e.Number, e.Kind, e.Minute = 0, 0, 0, 0, 0
	switch kind {
	case api.EvCreate:
		e.Case, e.Seed, e.To = 0, "", 0
	case api.EvAssign:
		e.Case, e.To = 0, 0
	case api.EvGrant:
		e.To, e.Cell, e.Permit = 0, 0, 0
	case api.EvWriteOff:
		e.To, e.Last = 0, 0
	case api.EvAnswer:
		e.Case, e.Given = 0, nil
	case api.EvComplete:
		e.Case, e.Given, e.Cell, e.Permit = 0, nil, 0, 0
	case api.EvReturn:
		e.Permit = 0
	}
	return e
}

// mayMake reports whether events of a kind can be of a device.
func mayMake(kind, device int) bool {
	switch kind {
	case api.EvAnswer, api.EvComplete:
		return true
	case api.EvReturn:
		return device != 0
	}
	return device == 0
}

// isInRange reports whether what only some kinds use is in its range.
func (p *plan) isInRange(e api.Event) bool {
	switch e.Kind {
	case api.EvCreate, api.EvAssign:
		return isCase(e.Case) && isDevice(e.To)
	case api.EvGrant:
		return isDevice(e.To) && p.isCell(e.Cell) && isPermit(e.Permit)
	case api.EvWriteOff:
		return isDevice(e.To) && e.Last >= 0 && e.Last <= api.MaxEvents
	case api.EvAnswer:
		return isCase(e.Case)
	case api.EvComplete:
		return isCase(e.Case) && (e.Cell == -1 && e.Permit == 0 || p.isCell(e.Cell) && isPermit(e.Permit))
	}
	return isPermit(e.Permit)
}

// isMaker reports whether a number is that of the centre or of another device.
func isMaker(device int) bool { return device == 0 || isDevice(device) }

func isDevice(device int) bool { return device >= 1 && device <= api.MaxDevices }

func isCase(id int) bool { return id >= 1 && id <= api.MaxCases }

func isPermit(permit int) bool { return permit >= 1 && permit <= api.MaxEvents }

func isMinute(minute int) bool { return minute >= 0 && minute <= api.MaxMinute }
