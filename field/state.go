package field

import (
	"maps"
	"slices"

	"canvass/api"
	"canvass/fresh"
)

// state returns what a book has (L4).
func (b *book) state() api.Field {
	f := api.Field{Filled: slices.Clone(b.filled), Refused: b.refused}
	for _, id := range slices.Sorted(maps.Keys(b.cases)) {
		f.Cases = append(f.Cases, b.caseState(id))
	}
	for _, number := range slices.Sorted(maps.Keys(b.permits)) {
		own := b.permits[number]
		f.Permits = append(f.Permits, api.Permit{Number: number, Cell: own.cell, Device: own.device, State: b.permitState(own)})
	}
	return f
}

func (b *book) caseState(id int) api.CaseState {
	c := b.cases[id]
	s := api.CaseState{Case: id, Seed: c.seed, Device: c.device}
	if done := c.completion; done != nil {
		s.Given, s.Complete, s.Cell, s.Minute = fresh.List(done.Given, fresh.Given), true, done.Cell, done.Minute
	} else {
		s.Given, s.Cell = b.Listed(c.answers), -1
	}
	return s
}

func (b *book) permitState(own *permit) int {
	switch {
	case own.isUsed:
		return api.PermitUsed
	case own.isReturned || b.isLost(own.device) && !own.isTried:
		return api.PermitBack
	}
	return api.PermitOut
}

// isOut reports whether a permit for a cell can be used by its device.
func (b *book) isOut(own *permit, cell int) bool {
	return own.cell == cell && !own.isUsed && b.permitState(own) == api.PermitOut
}

// out returns how many permits for a cell can be used.
func (b *book) out(cell int) int {
	n := 0
	for _, own := range b.granted {
		if b.isOut(own, cell) {
			n++
		}
	}
	return n
}

// next returns the number behind the greatest one of a permit.
func (b *book) next() int {
	last := 0
	for _, own := range b.granted {
		last = max(last, own.number)
	}
	return last + 1
}

// least returns the least number of a permit for a cell that a device can use; 0 if there is none.
func (b *book) least(cell, device int) int {
	best := 0
	for _, own := range b.granted {
		if own.device == device && b.isOut(own, cell) && (best == 0 || own.number < best) {
			best = own.number
		}
	}
	return best
}
