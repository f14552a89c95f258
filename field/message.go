package field

import (
	"slices"

	"canvass/api"
	"canvass/fresh"
)

// Send returns a message with the events that some marks do not tell (L6).
func (d *Device) Send(known []api.Mark) (api.Packet, api.Fault) {
	if fault := checkMarks(known); fault != api.OK {
		return api.Packet{}, fault
	}
	last := map[int]int{}
	for _, m := range known {
		last[m.Device] = m.Number
	}
	var events []api.Event
	for _, e := range d.set.list {
		if e.Number > last[e.Device] {
			events = append(events, fresh.Event(e.Event))
		}
	}
	return api.Packet{From: d.number, Known: d.set.marks(), Events: events}, api.OK
}

// checkMarks has the errors of marks.
func checkMarks(l []api.Mark) api.Fault {
	for i, m := range l {
		if !isMaker(m.Device) || m.Number < 0 || m.Number > api.MaxEvents {
			return api.ErrRange
		}
		if i > 0 && m.Device <= l[i-1].Device {
			return api.ErrOrder
		}
	}
	return api.OK
}

// Receive takes a message (L6).
func (d *Device) Receive(m api.Packet) api.Fault {
	if !isMaker(m.From) {
		return api.ErrRange
	}
	if fault := checkMarks(m.Known); fault != api.OK {
		return fault
	}
	if fault := d.plan.checkList(m.Events); fault != api.OK {
		return fault
	}
	if d.set.excludes(m.Events) || hasTwice(m.Events) {
		return api.ErrConflict
	}
	follow := d.set.following(m.Events)
	if !d.set.areInStep(follow) {
		return api.ErrOrder
	}
	if len(d.set.list)+len(follow) > api.MaxEvents {
		return api.ErrLarge
	}
	slices.SortFunc(follow, func(a, b *record) int { return compareEvents(a.Event, b.Event) })
	d.take(follow)
	return api.OK
}

// following returns those of some events whose Numbers follow those of the set without a gap, by devices, and by Numbers.
func (s *set) following(l []api.Event) []*record {
	marked := map[api.Mark]api.Event{}
	for _, e := range l {
		marked[markOf(e)] = e
	}
	var out []*record
	for device := range api.MaxDevices + 1 {
		for number := s.last[device] + 1; ; number++ {
			e, is := marked[api.Mark{Device: device, Number: number}]
			if !is {
				break
			}
			out = append(out, &record{Event: fresh.Event(e)})
		}
	}
	return out
}

// areInStep reports whether the Clocks of events that follow, by devices and by Numbers, increase with their Numbers.
func (s *set) areInStep(follow []*record) bool {
	last := map[int]int{}
	for _, e := range follow {
		before, is := last[e.Device]
		if known := s.marked[api.Mark{Device: e.Device, Number: e.Number - 1}]; !is && known != nil {
			before = known.Clock
		}
		if e.Clock <= before {
			return false
		}
		last[e.Device] = e.Clock
	}
	return true
}
