package field

import (
	"slices"
	"testing"

	"canvass/api"
)

const spread = `
	1.0.1 create 1 1 s
	2.0.2 create 2 2 s
	3.1.1 answer 1 sex=#1
	3.2.1 answer 2 sex=refused
	4.1.2 answer 1 sex=#2
	4.2.2 complete 2 -1 0 sex=refused
	5.0.3 assign 1 2
	6.1.3 answer 1 kids=1`

// TestSend holds which events a message has (L6).
func TestSend(t *testing.T) {
	p := workPlan(t)
	d := deviceWith(t, p, 2, spread)
	all := events(t, spread)
	for _, x := range []struct {
		known []api.Mark
		want  []int // numbers in the list
	}{
		{nil, []int{0, 1, 2, 3, 4, 5, 6, 7}},
		{[]api.Mark{{Device: 3, Number: 9}}, []int{0, 1, 2, 3, 4, 5, 6, 7}},
		{[]api.Mark{{Device: 0, Number: 0}, {Device: 1, Number: 0}}, []int{0, 1, 2, 3, 4, 5, 6, 7}},
		{[]api.Mark{{Device: 1, Number: 1}}, []int{0, 1, 3, 4, 5, 6, 7}},
		{[]api.Mark{{Device: 0, Number: 2}, {Device: 1, Number: 2}, {Device: 2, Number: 1}}, []int{5, 6, 7}},
		{[]api.Mark{{Device: 0, Number: 3}, {Device: 1, Number: 3}, {Device: 2, Number: 2}, {Device: 60, Number: 20000}}, nil},
		{[]api.Mark{{Device: 0, Number: 20000}, {Device: 2, Number: 1}}, []int{2, 4, 5, 7}},
	} {
		m, fault := d.Send(x.known)
		var want []api.Event
		for _, n := range x.want {
			want = append(want, all[n])
		}
		is(t, "Events", eventsText(m.Events), eventsText(want))
		is(t, "the message", []any{m.From, m.Known, fault}, "[2 [{0 3} {1 3} {2 2}] 0]")
	}
	m, fault := device(t, p, 0).Send(nil)
	is(t, "a message about nothing", []any{m.From, m.Known, m.Events, fault}, "[0 [] [] 0]")
	holdEvents(t, d, spread)
}

// wrongMarks are marks with their errors, each with others that come later (L6).
func wrongMarks() map[api.Fault][][]api.Mark {
	return map[api.Fault][][]api.Mark{
		api.ErrRange: {{{Device: -1}}, {{Device: api.MaxDevices + 1}}, {{Device: 1, Number: -1}}, {{Device: 1, Number: api.MaxEvents + 1}}, {{Device: 5}, {Device: -1}, {Device: 5}}, {{Device: 5}, {Device: 5, Number: -1}}},
		api.ErrOrder: {{{Device: 5}, {Device: 5}}, {{Device: 5}, {Device: 4}, {Device: -1}}, {{Device: 0}, {Device: 1}, {Device: 0}}},
	}
}

// TestMarks holds the errors of marks, of which Send has no others (L6).
func TestMarks(t *testing.T) {
	d := deviceWith(t, workPlan(t), 2, spread)
	for want, lists := range wrongMarks() {
		for _, l := range lists {
			if m, fault := d.Send(l); fault != want || m.From != 0 || len(m.Known)+len(m.Events) > 0 {
				t.Error("Send", l, fault, "not", want)
			}
			// Those of Receive come behind that for From, and ahead of those for Events.
			if fault := d.Receive(api.Packet{From: 1, Known: l, Events: make([]api.Event, api.MaxEvents+1)}); fault != want {
				t.Error("Receive", l, fault, "not", want)
			}
			if fault := d.Receive(api.Packet{From: -1, Known: slices.Concat([]api.Mark{{Device: -1}}, l)}); fault != api.ErrRange {
				t.Error("Receive", l, fault)
			}
		}
	}
	for _, from := range []int{-1, api.MaxDevices + 1} {
		if fault := d.Receive(api.Packet{From: from, Known: []api.Mark{{Device: 5}, {Device: 5}}}); fault != api.ErrRange {
			t.Error("Receive from", from, fault)
		}
	}
	for _, from := range []int{0, 2, api.MaxDevices} {
		if fault := d.Receive(api.Packet{From: from, Known: []api.Mark{{Device: 0}, {Device: 7, Number: 9}, {Device: api.MaxDevices, Number: api.MaxEvents}}}); fault != api.OK {
			t.Error("Receive from", from, fault)
		}
	}
	holdEvents(t, d, spread)
}

// TestReceive holds which events of a message are taken (L6).
func TestReceive(t *testing.T) {
	p := workPlan(t)
	base := "1.0.1 create 1 1 s\n5.1.1 answer 1 sex=#1\n"
	for _, x := range []struct {
		name, lines, want string
		fault             api.Fault
	}{
		{"nothing", "", base, api.OK},
		{"what is known", base, base, api.OK},
		{"behind all others", "6.1.2 answer 1 sex=#2\n7.0.2 assign 1 2", base + "6.1.2 answer 1 sex=#2\n7.0.2 assign 1 2", api.OK},
		{"among the others", "1.2.1 answer 1 sex=#2\n2.0.2 assign 1 2\n6.2.2 answer 1 sex=#2", "1.0.1 create 1 1 s\n1.2.1 answer 1 sex=#2\n2.0.2 assign 1 2\n5.1.1 answer 1 sex=#1\n6.2.2 answer 1 sex=#2", api.OK},
		{"ahead of all others", "1.0.1 create 1 1 s\n1.3.1 return 1", "1.0.1 create 1 1 s\n1.3.1 return 1\n5.1.1 answer 1 sex=#1", api.OK},
		{"behind a gap", "6.1.2 answer 1 sex=#2\n7.1.4 answer 1 sex=#1\n8.0.3 assign 1 2\n9.2.2 return 1", base + "6.1.2 answer 1 sex=#2", api.OK},
		{"a gap of one device, none of another one", "7.1.3 return 1\n7.3.1 return 2\n8.3.2 return 3\n9.3.4 return 4", base + "7.3.1 return 2\n8.3.2 return 3", api.OK},
		{"not in the order of Numbers", "6.1.3 return 1\n7.1.2 return 1", base, api.ErrOrder},
		{"not in the order of Numbers, behind a gap", "6.1.4 return 1\n7.1.3 return 1", base, api.OK},
		{"a Clock that is too small", "4.1.2 return 1", base, api.ErrOrder},
		{"the same Clock", "5.1.2 return 1", base, api.ErrOrder},
		{"a Clock that is too small, behind a gap", "4.1.3 return 1", base, api.OK},
		{"the same Clock twice", "6.1.2 return 1\n6.1.3 return 1", base, api.ErrOrder},
		{"the same Clock twice, of a new device", "6.3.1 return 1\n6.3.2 return 1\n6.4.1 return 1", base, api.ErrOrder},
		{"another event", "5.1.1 answer 1 sex=#2", base, api.ErrConflict},
		{"at another time", "6.1.1 answer 1 sex=#1\n7.1.3 return 1", base, api.ErrConflict},
		{"twice in the message", "6.1.2 return 1\n7.1.2 return 1", base, api.ErrConflict},
		{"twice in the message, behind a gap", "6.1.9 return 1\n7.1.9 return 1", base, api.ErrConflict},
		{"ErrConflict ahead of ErrOrder", "4.1.2 return 1\n6.1.9 return 1\n7.1.9 return 1", base, api.ErrConflict},
		{"ErrConflict for all ahead of ErrOrder", "4.1.2 return 1\n5.1.1 answer 1 sex=#2", base, api.ErrConflict},
		{"the order of the message", "7.1.2 return 1\n6.1.3 return 1", base, api.ErrOrder},
		{"an event twice", "7.1.2 return 1\n7.1.2 return 1", base, api.ErrTwice},
		{"ErrTwice ahead of ErrConflict", "5.1.1 answer 1 sex=#2\n5.1.1 answer 1 sex=#2", base, api.ErrTwice},
		{"one event after the other", "7.1.2 return 1\n6.1.2 return 1\n8.1.3 return 0", base, api.ErrOrder},
		{"a wrong event behind a gap", "7.1.9 return 0", base, api.ErrRange},
	} {
		d := deviceWith(t, p, 4, base)
		d.State()
		if fault := d.Receive(api.Packet{From: 1, Events: events(t, x.lines)}); fault != x.fault {
			t.Error(x.name, "Receive", fault, "not", x.fault)
		}
		is(t, x.name, eventsText(d.Events()), eventsText(events(t, x.want)))
		is(t, x.name+", State", stateText(d.State()), stateText(secondState(p, events(t, x.want))))
		var marks []api.Mark
		for device := range api.MaxDevices + 1 {
			if n := secondMark(events(t, x.want), device); n > 0 {
				marks = append(marks, api.Mark{Device: device, Number: n})
			}
		}
		is(t, x.name+", Known", d.Known(), marks)
	}
}

// TestReceiveTooMuch holds the ends of messages and of sets (L6).
func TestReceiveTooMuch(t *testing.T) {
	p := workPlan(t)
	l := manyEvents(api.MaxEvents, 1, 0)
	d := device(t, p, 2)
	if fault := d.Receive(api.Packet{Events: append(slices.Clone(l), api.Event{})}); fault != api.ErrLarge {
		t.Error("Receive of too many events", fault)
	}
	if fault := d.Receive(api.Packet{Events: l[:api.MaxEvents-1]}); fault != api.OK || len(d.Events()) != api.MaxEvents-1 {
		t.Error("Receive of many events", fault)
	}
	two := slices.Concat(l[api.MaxEvents-1:], []api.Event{{Clock: api.MaxEvents, Device: 2, Number: 1, Kind: api.EvReturn, Permit: 1}})
	if fault := d.Receive(api.Packet{Events: two}); fault != api.ErrLarge || len(d.Events()) != api.MaxEvents-1 {
		t.Error("Receive of one event too much", fault)
	}
	// Those that are known, or behind a gap, take no room; other errors come first.
	behind := manyEvents(api.MaxEvents, 3, 0)
	if fault := d.Receive(api.Packet{Events: behind[1:]}); fault != api.OK || len(d.Events()) != api.MaxEvents-1 {
		t.Error("Receive behind a gap", fault)
	}
	if fault := d.Receive(api.Packet{Events: l}); fault != api.OK || len(d.Events()) != api.MaxEvents {
		t.Error("Receive of the last one", fault)
	}
	if fault := d.Receive(api.Packet{Events: behind}); fault != api.ErrLarge {
		t.Error("Receive at the end", fault)
	}
	behind[9].Clock--
	if fault := d.Receive(api.Packet{Events: slices.Concat(behind[:8], behind[9:10], behind[8:9])}); fault != api.ErrOrder {
		t.Error("Receive at the end, not in order", fault)
	}
	m, fault := d.Send(nil)
	if fault != api.OK || len(m.Events) != api.MaxEvents || device(t, p, 5).Receive(m) != api.OK {
		t.Error("Send of a large set", fault)
	}
}

// TestSync holds that devices come to the same set (L6, L7).
func TestSync(t *testing.T) {
	p := workPlan(t)
	c, a, b := device(t, p, 0), device(t, p, 1), device(t, p, 2)
	play(t, c, "create 1 1 s -> 0\ncreate 2 2 s -> 0\ngrant 0 1 -> 0")
	first, _ := c.Send(nil)
	play(t, c, "assign 2 1 -> 0")
	second, _ := c.Send(first.Known)
	// A message that comes ahead of its time is not taken, and is sent again.
	if fault := b.Receive(second); fault != api.OK || len(b.Events()) > 0 {
		t.Error("Receive behind a gap", fault)
	}
	for _, m := range []api.Packet{first, second, first} {
		if fault := a.Receive(m); fault != api.OK {
			t.Error("Receive", fault)
		}
	}
	sync(t, a, b)
	holdEvents(t, b, "1.0.1 create 1 1 s\n2.0.2 create 2 2 s\n3.0.3 grant 1 0 1\n4.0.4 assign 2 1")
	play(t, a, "answer 1 sex=#1 -> 0")
	play(t, b, "answer 2 sex=#1 -> 20")
	play(t, a, "complete 1 -> 0")
	sync(t, a, b)
	sync(t, b, c)
	is(t, "Events", eventsText(c.Events()), eventsText(a.Events()))
	is(t, "State", stateText(c.State()), "1:s:1[sex=#1]0@0 2:s:1[] 1:0:1:used [1 0 0] 0")
}

// TestDeviceTwice holds that a device restored from an older set than it once had meets ErrConflict (L5, L7).
func TestDeviceTwice(t *testing.T) {
	p := workPlan(t)
	old := "1.0.1 create 1 1 s\n2.1.1 answer 1 sex=#1"
	a, c := deviceWith(t, p, 1, old), deviceWith(t, p, 0, old)
	play(t, a, "answer 1 sex=#2 -> 0")
	sync(t, a, c)
	again := deviceWith(t, p, 1, old)
	play(t, again, "answer 1 sex=refused -> 0")
	m, _ := again.Send(nil)
	if fault := c.Receive(m); fault != api.ErrConflict {
		t.Error("Receive", fault)
	}
	if _, fault := Join(p, again.Events(), c.Events()); fault != api.ErrConflict {
		t.Error("Join", fault)
	}
	// Under a new number it goes on.
	renamed := deviceWith(t, p, 5, old)
	play(t, c, "assign 1 5 -> 0")
	sync(t, c, renamed)
	play(t, renamed, "answer 1 sex=refused -> 0")
	sync(t, renamed, c)
	is(t, "State", stateText(c.State()), "1:s:5[sex=refused] [0 0 0] 0")
}
