package field

import (
	"maps"
	"slices"

	"canvass/api"
	"canvass/fresh"
)

// record is an event of a set, and, if it is an EvComplete and isJudged, whether it isRight. This stays so while the set grows: the centre's events are added by their Numbers, so the first EvCreate for a case stays the first one.
type record struct {
	api.Event
	isJudged, isRight bool
}

// set is a set of events (L3).
type set struct {
	list   []*record // in the order
	marked map[api.Mark]*record
	last   map[int]int // the greatest Number of each device that has events
}

func markOf(e api.Event) api.Mark { return api.Mark{Device: e.Device, Number: e.Number} }

// setOf returns a set of events that checkSet accepts. It keeps what they have.
func setOf(l []api.Event) *set {
	s := &set{marked: map[api.Mark]*record{}, last: map[int]int{}}
	s.take(s.unknown(l))
	return s
}

// events returns the events of a set in the order.
func (s *set) events() []api.Event { return eventsOf(s.list) }

func eventsOf(l []*record) []api.Event {
	var out []api.Event
	for _, e := range l {
		out = append(out, fresh.Event(e.Event))
	}
	return out
}

// marks returns a mark for each device that has events, in their order.
func (s *set) marks() []api.Mark {
	var out []api.Mark
	for _, device := range slices.Sorted(maps.Keys(s.last)) {
		out = append(out, api.Mark{Device: device, Number: s.last[device]})
	}
	return out
}

// clock returns the greatest Clock; 0 if there are no events.
func (s *set) clock() int {
	if len(s.list) == 0 {
		return 0
	}
	return s.list[len(s.list)-1].Clock
}

// isBehind reports whether an event comes behind all of the set.
func (s *set) isBehind(e *record) bool {
	return len(s.list) == 0 || compareEvents(s.list[len(s.list)-1].Event, e.Event) < 0
}

// excludes reports whether one of some events has the Device and Number of one of the set, and is not equal to it.
func (s *set) excludes(l []api.Event) bool {
	return slices.ContainsFunc(l, func(e api.Event) bool {
		known := s.marked[markOf(e)]
		return known != nil && !sameEvent(known.Event, e)
	})
}

// unknown returns those of some events that the set does not have.
func (s *set) unknown(l []api.Event) []*record {
	var out []*record
	for _, e := range l {
		if s.marked[markOf(e)] == nil {
			out = append(out, &record{Event: e})
		}
	}
	return out
}

// take adds events, which are in the order. It begins with the last ones: those that come behind all of the set cost no more than they do.
func (s *set) take(l []*record) {
	i, j := len(s.list)-1, len(l)-1
	s.list = append(s.list, l...)
	for at := len(s.list) - 1; j >= 0; at-- {
		if i >= 0 && compareEvents(s.list[i].Event, l[j].Event) > 0 {
			s.list[at], i = s.list[i], i-1
		} else {
			s.list[at], j = l[j], j-1
		}
	}
	for _, e := range l {
		s.marked[markOf(e.Event)] = e
		s.last[e.Device] = max(s.last[e.Device], e.Number)
	}
}

// checkSet is CheckEvents (L3).
func (p *plan) checkSet(l []api.Event) api.Fault {
	if fault := p.checkList(l); fault != api.OK {
		return fault
	}
	switch {
	case hasTwice(l):
		return api.ErrConflict
	case !areInStep(l):
		return api.ErrOrder
	case hasGap(l):
		return api.ErrNone
	}
	return api.OK
}

// checkList says whether events are not too many, each sound, and in the order.
func (p *plan) checkList(l []api.Event) api.Fault {
	if len(l) > api.MaxEvents {
		return api.ErrLarge
	}
	for i, e := range l {
		if fault := p.checkEvent(e); fault != api.OK {
			return fault
		}
		if i == 0 {
			continue
		}
		switch order := compareEvents(l[i-1], e); {
		case order > 0:
			return api.ErrOrder
		case order == 0:
			return api.ErrTwice
		}
	}
	return api.OK
}

// hasTwice reports whether two events have the same Device and Number.
func hasTwice(l []api.Event) bool {
	seen := map[api.Mark]bool{}
	for _, e := range l {
		if seen[markOf(e)] {
			return true
		}
		seen[markOf(e)] = true
	}
	return false
}

// areInStep reports whether the Clocks of each device, of events in the order, increase with their Numbers.
func areInStep(l []api.Event) bool {
	last := map[int]api.Event{}
	for _, e := range l {
		if before := last[e.Device]; e.Number <= before.Number || e.Clock <= before.Clock {
			return false
		}
		last[e.Device] = e
	}
	return true
}

// hasGap reports whether a Number of a device is missing, of events whose Numbers differ.
func hasGap(l []api.Event) bool {
	count, last := map[int]int{}, map[int]int{}
	for _, e := range l {
		count[e.Device]++
		last[e.Device] = max(last[e.Device], e.Number)
	}
	return !maps.Equal(count, last)
}
