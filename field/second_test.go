package field

import (
	"cmp"
	"maps"
	"slices"
	"testing"

	"canvass/api"
	"canvass/interview"
	"canvass/quest"
	"canvass/value"
)

// What follows makes the results of the chapter a second time, by its words, from exported functions of lower layers, without a care for time.

func secondCell(p api.Plan, seed string, given []api.Given) int {
	scene, fault := interview.SceneOf(p.Form, seed, given)
	for n, q := range p.Quotas {
		v, other := value.Eval(q.If, scene, nil, nil)
		if fault+other != api.OK {
			return -2
		}
		if v.N == 1 {
			return n
		}
	}
	return -1
}

// secondFits reports what L4.4 says of an EvComplete and a case.
func secondFits(p api.Plan, seed string, e api.Event) bool {
	route, fault := interview.RouteOf(p.Form, seed, e.Given)
	if fault != api.OK || slices.ContainsFunc(route.Asked, func(a api.Asked) bool { return a.Open != api.OK }) {
		return false
	}
	data, _ := interview.Data(p.Form, seed, e.Given)
	return givenText(data) == givenText(e.Given) && secondCell(p, seed, e.Given) == e.Cell
}

// secondKept returns the events that are not refused, and how many are.
func secondKept(l []api.Event) ([]api.Event, int) {
	last := map[int]int{}
	for _, e := range l {
		if _, twice := last[e.To]; e.Kind == api.EvWriteOff && !twice {
			last[e.To] = e.Last
		}
	}
	var kept []api.Event
	for _, e := range l {
		if n, isOff := last[e.Device]; !isOff || e.Number <= n {
			kept = append(kept, e)
		}
	}
	return kept, len(l) - len(kept)
}

// secondSorted returns answers in the order of keys.
func secondSorted(p api.Plan, answers map[string]api.Given) []api.Given {
	out := slices.Collect(maps.Values(answers))
	cells, _, _ := quest.Cells(p.Form)
	slices.SortFunc(out, func(a, b api.Given) int {
		at := func(g api.Given) int {
			return slices.IndexFunc(cells, func(c api.Cell) bool { return c.Name == g.Key.Name })
		}
		return cmp.Or(cmp.Compare(at(a), at(b)), slices.Compare(a.Key.Row, b.Key.Row))
	})
	return out
}

func secondCases(p api.Plan, l []api.Event) []api.CaseState {
	var out []api.CaseState
	for id := range 20 { // more are not made by chance
		first := slices.IndexFunc(l, func(e api.Event) bool { return e.Kind == api.EvCreate && e.Case == id })
		if first < 0 {
			continue
		}
		c, last := api.CaseState{Case: id, Seed: l[first].Seed, Cell: -1}, map[string]api.Given{}
		for i, e := range l {
			switch {
			case e.Case != id:
			case i == first || e.Kind == api.EvAssign:
				c.Device = e.To
			case e.Kind == api.EvAnswer:
				last[givenText([]api.Given{{Key: e.Given[0].Key}})] = e.Given[0]
			}
		}
		maps.DeleteFunc(last, func(_ string, g api.Given) bool { return g.Value.Kind == api.Missing })
		c.Given = secondSorted(p, last)
		out = append(out, c)
	}
	return out
}

func secondPermits(l []api.Event) []api.Permit {
	var out []api.Permit
	for _, e := range l {
		if e.Kind == api.EvGrant && !slices.ContainsFunc(out, func(x api.Permit) bool { return x.Number == e.Permit }) {
			out = append(out, api.Permit{Number: e.Permit, Cell: e.Cell, Device: e.To, State: api.PermitOut})
		}
	}
	slices.SortFunc(out, func(a, b api.Permit) int { return cmp.Compare(a.Number, b.Number) })
	return out
}

// secondState is StateOf for a set.
func secondState(p api.Plan, all []api.Event) api.Field {
	l, refused := secondKept(all)
	s := api.Field{Cases: secondCases(p, l), Permits: secondPermits(l), Filled: make([]int, len(p.Quotas)), Refused: refused}
	has := func(kind int, x api.Permit) bool {
		return slices.ContainsFunc(l, func(e api.Event) bool {
			return e.Kind == kind && e.Permit == x.Number && e.Device == x.Device
		})
	}
	used := map[int]bool{}
	for _, e := range l {
		n := slices.IndexFunc(s.Cases, func(c api.CaseState) bool { return c.Case == e.Case })
		if e.Kind != api.EvComplete || n < 0 || s.Cases[n].Complete || !secondFits(p, s.Cases[n].Seed, e) {
			continue
		}
		fits := func(x api.Permit) bool {
			return x.Number == e.Permit && x.Cell == e.Cell && x.Device == e.Device && !has(api.EvReturn, x)
		}
		if e.Cell >= 0 && (used[e.Permit] || !slices.ContainsFunc(s.Permits, fits)) {
			continue
		}
		c := &s.Cases[n]
		c.Complete, c.Given, c.Cell, c.Minute = true, e.Given, e.Cell, e.Minute
		if e.Cell >= 0 {
			used[e.Permit] = true
			s.Filled[e.Cell]++
		}
	}
	for n, x := range s.Permits {
		isOff := slices.ContainsFunc(all, func(e api.Event) bool { return e.Kind == api.EvWriteOff && e.To == x.Device })
		switch {
		case used[x.Number]:
			s.Permits[n].State = api.PermitUsed
		case has(api.EvReturn, x) || isOff && !has(api.EvComplete, x):
			s.Permits[n].State = api.PermitBack
		}
	}
	return s
}

func secondMark(l []api.Event, device int) int {
	last := 0
	for _, e := range l {
		if e.Device == device {
			last = max(last, e.Number)
		}
	}
	return last
}

// secondJoin returns all events of two sets that do not exclude one another.
func secondJoin(a, b []api.Event) []api.Event {
	out := slices.Clone(a)
	for _, e := range b {
		if !slices.ContainsFunc(a, func(x api.Event) bool { return eventText(x) == eventText(e) }) {
			out = append(out, e)
		}
	}
	slices.SortFunc(out, func(a, b api.Event) int {
		return cmp.Or(cmp.Compare(a.Clock, b.Clock), cmp.Compare(a.Device, b.Device), cmp.Compare(a.Number, b.Number))
	})
	return out
}

// secondCall returns the event that a call with some fields adds to a set, or the error of the call, but for those that all calls have (L5).
func secondCall(t *testing.T, p api.Plan, l []api.Event, device int, e api.Event) (api.Event, api.Fault) {
	t.Helper()
	s := secondState(p, l)
	e.Device, e.Number, e.Clock = device, secondMark(l, device)+1, 1
	if len(l) > 0 {
		e.Clock = l[len(l)-1].Clock + 1
	}
	isOff := slices.ContainsFunc(l, func(x api.Event) bool { return x.Kind == api.EvWriteOff && x.To == e.To })
	n := slices.IndexFunc(s.Cases, func(c api.CaseState) bool { return c.Case == e.Case })
	switch e.Kind {
	case api.EvCreate:
		if n >= 0 {
			return e, api.ErrTwice
		}
	case api.EvAssign:
		if n < 0 {
			return e, api.ErrNone
		}
	case api.EvGrant:
		if isOff {
			return e, api.ErrState
		}
		taken := s.Filled[e.Cell]
		for _, x := range s.Permits {
			if x.Cell == e.Cell && x.State == api.PermitOut {
				taken++
			}
			e.Permit = x.Number
		}
		e.Permit++
		if taken >= p.Quotas[e.Cell].Target {
			return e, api.ErrFull
		}
	case api.EvWriteOff:
		e.Last = secondMark(l, e.To)
		if isOff {
			return e, api.ErrState
		}
	case api.EvReturn:
		return e, secondReturn(s, l, e)
	default:
		if n < 0 {
			return e, api.ErrNone
		}
		return secondWork(p, s, s.Cases[n], e)
	}
	return e, api.OK
}

func secondReturn(s api.Field, l []api.Event, e api.Event) api.Fault {
	n := slices.IndexFunc(s.Permits, func(x api.Permit) bool { return x.Number == e.Permit && x.Device == e.Device })
	switch {
	case n < 0:
		return api.ErrNone
	case s.Permits[n].State != api.PermitOut || slices.ContainsFunc(l, func(x api.Event) bool {
		return x.Kind == api.EvComplete && x.Device == e.Device && x.Permit == e.Permit
	}):
		return api.ErrState
	}
	return api.OK
}

// secondWork is secondCall for Answer and Complete, with routes that are never too large.
func secondWork(p api.Plan, s api.Field, c api.CaseState, e api.Event) (api.Event, api.Fault) {
	if c.Complete {
		return e, api.ErrClosed
	}
	if c.Device != e.Device {
		return e, api.ErrDevice
	}
	route, _ := interview.RouteOf(p.Form, c.Seed, c.Given)
	if e.Kind == api.EvAnswer {
		if _, fault := interview.RouteOf(p.Form, c.Seed, e.Given); fault != api.OK {
			return e, fault
		}
		for _, a := range route.Asked {
			if givenText([]api.Given{{Key: a.Key}}) != givenText([]api.Given{{Key: e.Given[0].Key}}) {
				continue
			}
			if e.Given[0].Value.Kind == api.Missing {
				return e, api.OK
			}
			return e, quest.Accept(p.Form, a.Key.Name, e.Given[0].Value, a.Offered)
		}
		return e, api.ErrState
	}
	for _, a := range route.Asked {
		if a.Open != api.OK {
			return e, a.Open
		}
	}
	e.Given, _ = interview.Data(p.Form, c.Seed, c.Given)
	e.Cell = secondCell(p, c.Seed, c.Given)
	if e.Cell < 0 {
		return e, api.OK
	}
	n := slices.IndexFunc(s.Permits, func(x api.Permit) bool {
		return x.Cell == e.Cell && x.Device == e.Device && x.State == api.PermitOut
	})
	if n < 0 {
		return e, api.ErrFull
	}
	e.Permit = s.Permits[n].Number
	return e, api.OK
}
