package field

import (
	"fmt"
	"slices"
	"strings"
	"testing"

	"canvass/api"
)

// TestNew holds devices without events, and the numbers that there are (L5).
func TestNew(t *testing.T) {
	p := workPlan(t)
	for _, number := range []int{0, 1, api.MaxDevices} {
		d := device(t, p, number)
		if len(d.Events()) > 0 || len(d.Known()) > 0 {
			t.Error("New", d.Events(), d.Known())
		}
		is(t, "State", stateText(d.State()), " [0 0 0] 0")
	}
	for _, number := range []int{-1, api.MaxDevices + 1} {
		if d, fault := New(p, number); fault != api.ErrRange || d != nil {
			t.Error("New", number, fault)
		}
		if d, fault := Restore(p, number, []api.Event{{}}); fault != api.ErrRange || d != nil {
			t.Error("Restore", number, fault)
		}
	}
	d := device(t, api.Plan{Form: p.Form}, 1)
	is(t, "State without quotas", stateText(d.State()), " [] 0")
}

// TestRestore holds that a device goes on where its set ends (L5).
func TestRestore(t *testing.T) {
	p := workPlan(t)
	lines := "1.0.1 create 1 2 s\n1.1.1 return 1\n5.2.1 answer 1 sex=#2\n5.7.1 answer 1 sex=refused\n6.7.2 answer 1 kids=9"
	d := deviceWith(t, p, 2, lines)
	holdEvents(t, d, lines)
	is(t, "Number", d.Number(), 2)
	is(t, "Known", d.Known(), "[{0 1} {1 1} {2 1} {7 2}]")
	is(t, "State", stateText(d.State()), "1:s:2[sex=refused kids=9] [0 0 0] 0")
	play(t, d, "answer 1 sex=#2 @3 -> 0")
	holdEvents(t, d, lines+"\n7.2.2 answer 1 sex=#2 @3")
	is(t, "Known", d.Known(), "[{0 1} {1 1} {2 2} {7 2}]")
	d = deviceWith(t, p, 9, lines)
	play(t, d, "answer 1 sex=#2 -> 20")
	c := deviceWith(t, p, 0, lines)
	play(t, c, "assign 1 9 -> 0")
	sync(t, c, d)
	play(t, d, "answer 1 sex=#2 -> 0")
	holdEvents(t, d, lines+"\n7.0.2 assign 1 9\n8.9.1 answer 1 sex=#2")
}

// TestCallErrors holds the errors that all calls have, in order, ahead of their own (L5).
func TestCallErrors(t *testing.T) {
	p := workPlan(t)
	centre := []string{"create 0 0 s", "assign 1 0", "grant 9 0", "writeoff 0"}
	own := map[string]api.Fault{"create 0 0 s": api.ErrRange, "assign 1 0": api.ErrNone, "grant 9 0": api.ErrRange, "writeoff 0": api.ErrRange, "answer 1 nobody=1": api.ErrNone, "complete 1": api.ErrNone, "return 1": api.ErrNone}
	hold := func(d *Device, call string, want api.Fault) {
		t.Helper()
		before := len(d.Events())
		if n, fault := do(t, d, call); fault != want || n != 0 || len(d.Events()) != before {
			t.Error(call, "at", d.Number(), fault, "not", want)
		}
	}
	late := fmt.Sprintf("%d.3.1 answer 1 sex=#1", api.MaxClock)
	for call, fault := range own {
		var makers, others []int
		switch {
		case slices.Contains(centre, call):
			makers, others = []int{0}, []int{1, api.MaxDevices}
		case call == "return 1":
			makers, others = []int{1, api.MaxDevices}, []int{0}
		default:
			makers = []int{0, 1, api.MaxDevices}
		}
		for _, number := range others {
			hold(deviceWith(t, p, number, late), call+" @-1", api.ErrDevice)
			hold(device(t, p, number), call, api.ErrDevice)
		}
		for _, number := range makers {
			d := deviceWith(t, p, number, late)
			hold(d, call+" @-1", api.ErrRange)
			hold(d, fmt.Sprint(call, " @", api.MaxMinute+1), api.ErrRange)
			hold(d, call, api.ErrLarge)
			d = device(t, p, number)
			hold(d, call, fault)
			hold(d, fmt.Sprint(call, " @", api.MaxMinute), fault)
		}
	}
}

// TestFullSets holds that there is an end of events and of Clocks (L5).
func TestFullSets(t *testing.T) {
	p := workPlan(t)
	d, fault := Restore(p, 1, manyEvents(api.MaxEvents-1, 1, 0))
	if fault != api.OK {
		t.Fatal("Restore", fault)
	}
	c, fault := Restore(p, 0, manyEvents(api.MaxEvents-1, 1, api.MaxClock-api.MaxEvents))
	if fault != api.OK {
		t.Fatal("Restore", fault)
	}
	play(t, c, "create 1 1 s -> 0\ncreate 2 1 s -> 2\nassign 1 1 -> 2\ngrant 0 1 -> 2\nwriteoff 2 -> 2\nanswer 9 sex=#1 -> 2\ncomplete 9 -> 2")
	l := c.Events()
	if last := l[len(l)-1]; len(l) != api.MaxEvents || last.Clock != api.MaxClock || last.Device != 0 || last.Number != 1 {
		t.Error("the last event", last)
	}
	play(t, d, "answer 1 sex=#1 -> 9\nreturn 1 -> 9")
	if fault := d.Receive(api.Packet{Events: manyEvents(1, 2, 0)}); fault != api.OK {
		t.Error("Receive", fault)
	}
	play(t, d, "answer 1 sex=#1 -> 2\nreturn 1 -> 2\nreturn 1 @-1 -> 1\ncreate 1 1 s -> 20")
	sync(t, d, device(t, p, 2))
	c = deviceWith(t, p, 0, fmt.Sprintf("%d.3.1 answer 1 sex=#1", api.MaxClock-2))
	play(t, c, "create 1 1 s -> 0\ncreate 2 1 s -> 0\ncreate 3 1 s -> 2")
}

// TestCreate holds the errors of Create, in order, and its event (L5).
func TestCreate(t *testing.T) {
	c := device(t, workPlan(t), 0)
	long := strings.Repeat("s", api.MaxSeed)
	play(t, c, `
		create 0 1 `+long+`x -> 1
		create 2001 1 `+long+`x -> 1
		create 1 0 `+long+`x -> 1
		create 1 61 s -> 1
		create 1 1 `+long+`x -> 2
		create 1 1 `+"\x7f"+` -> 1
		create 1 2 ab @7 -> 0
		create 1 0 ab -> 1
		create 1 2 `+long+`x -> 2
		create 1 2 `+"\x7f"+` -> 1
		create 1 3 cd -> 6
		create 2000 60 `+long+` -> 0
		create 3 1 -> 0`)
	holdEvents(t, c, "1.0.1 create 1 2 ab @7\n2.0.2 create 2000 60 "+long+"\n3.0.3 create 3 1")
	is(t, "State", stateText(c.State()), "1:ab:2[] 3::1[] 2000:"+long+":60[] [0 0 0] 0")
}

// TestAssign holds the errors of Assign, in order, and its event (L5).
func TestAssign(t *testing.T) {
	c := device(t, workPlan(t), 0)
	play(t, c, `
		assign 1 0 -> 9
		assign -1 2 -> 9
		create 1 2 ab -> 0
		assign 1 0 -> 1
		assign 1 61 -> 1
		assign 2 0 -> 9
		assign 1 60 @8 -> 0
		writeoff 3 -> 0
		assign 1 3 -> 0
		assign 1 3 -> 0`)
	holdEvents(t, c, "1.0.1 create 1 2 ab\n2.0.2 assign 1 60 @8\n3.0.3 writeoff 3 0\n4.0.4 assign 1 3\n5.0.5 assign 1 3")
	is(t, "State", stateText(c.State()), "1:ab:3[] [0 0 0] 0")
}

// TestGrant holds the errors of Grant, in order, its number and its event (L5).
func TestGrant(t *testing.T) {
	c := device(t, workPlan(t), 0)
	play(t, c, `
		grant -1 1 -> 1
		grant 3 1 -> 1
		grant 0 0 -> 1
		grant 0 61 -> 1
		writeoff 4 -> 0
		grant 3 4 -> 1
		grant 0 4 -> 11
		grant 0 1 @9 -> 0
		grant 0 2 -> 0
		grant 0 4 -> 11
		grant 0 1 -> 15
		grant 1 1 -> 0
		grant 1 1 -> 15
		grant 2 60 -> 0`)
	holdEvents(t, c, "1.0.1 writeoff 4 0\n2.0.2 grant 1 0 1 @9\n3.0.3 grant 2 0 2\n4.0.4 grant 3 1 1\n5.0.5 grant 4 2 60")
	// Numbers that are back are not granted again.
	play(t, c, "writeoff 60 -> 0\nwriteoff 2 -> 0")
	if n, fault := c.Grant(2, 1, 0); n != 5 || fault != api.OK {
		t.Error("Grant", n, fault)
	}
	is(t, "State", stateText(c.State()), "1:0:1:out 2:0:2:back 3:1:1:out 4:2:60:back 5:2:1:out [0 0 0] 0")
	play(t, c, "grant 0 3 -> 0\ngrant 0 3 -> 15")
	p := workPlan(t)
	p.Quotas[0].Target = 0
	play(t, device(t, p, 0), "grant 0 1 -> 15\ngrant 2 1 -> 0")
	// The greatest number counts, wherever it stands; and it has an end.
	c = deviceWith(t, p, 0, "1.0.1 grant 19999 2 1\n2.0.2 grant 7 2 1")
	if n, fault := c.Grant(1, 1, 0); n != api.MaxEvents || fault != api.OK {
		t.Error("Grant", n, fault)
	}
	play(t, c, "grant 0 1 -> 15\ngrant 2 1 -> 2\ngrant 1 1 -> 15")
}

// TestGrantAndFilled holds that complete cases take their part of a target (L5).
func TestGrantAndFilled(t *testing.T) {
	p := workPlan(t)
	done := "1.0.1 create 1 1 s\n2.0.2 grant 1 0 1\n3.1.1 complete 1 0 1 sex=#1"
	play(t, deviceWith(t, p, 0, done), "grant 0 2 -> 0\ngrant 0 2 -> 15\nwriteoff 1 -> 0\ngrant 0 2 -> 15\nwriteoff 2 -> 0\ngrant 0 3 -> 0\ngrant 0 3 -> 15")
	// A completion of a lost device that does not count holds its permit for ever.
	vain := "1.0.1 create 1 1 s\n2.0.2 grant 1 0 1\n3.1.1 complete 9 0 1 sex=#1"
	play(t, deviceWith(t, p, 0, vain), "writeoff 1 -> 0\ngrant 0 2 -> 0\ngrant 0 2 -> 15")
	// The cell of other permits and completions is of no matter.
	play(t, deviceWith(t, p, 0, done+"\n4.0.3 grant 2 2 1\n5.0.4 grant 3 1 1"), "grant 0 2 -> 0\ngrant 2 2 -> 0\ngrant 2 2 -> 0\ngrant 2 2 -> 15\ngrant 1 1 -> 15")
}

// TestWriteOff holds the errors of WriteOff, in order, and its event (L5).
func TestWriteOff(t *testing.T) {
	p := workPlan(t)
	c := deviceWith(t, p, 0, "1.2.1 return 1\n2.2.2 return 1\n2.5.1 return 1")
	play(t, c, `
		writeoff 0 -> 1
		writeoff -1 -> 1
		writeoff 61 -> 1
		writeoff 2 @4 -> 0
		writeoff 2 -> 11
		writeoff 60 -> 0
		writeoff 5 -> 0`)
	holdEvents(t, c, "1.2.1 return 1\n2.2.2 return 1\n2.5.1 return 1\n3.0.1 writeoff 2 2 @4\n4.0.2 writeoff 60 0\n5.0.3 writeoff 5 1")
	is(t, "State", stateText(c.State()), " [0 0 0] 0")
}

// TestReturn holds the errors of Return, in order, and its event (L5).
func TestReturn(t *testing.T) {
	p := workPlan(t)
	d := deviceWith(t, p, 1, `
		1.0.1 create 1 1 s
		2.0.2 create 2 2 s
		3.0.3 grant 1 0 1
		4.0.4 grant 2 0 2
		5.0.5 grant 3 2 1
		6.0.6 grant 4 2 1
		7.1.1 complete 1 0 1 sex=#1
		8.1.2 complete 1 2 3 sex=#2`)
	play(t, d, `
		return 0 -> 9
		return 5 -> 9
		return 2 -> 9
		return 1 -> 11
		return 3 -> 11
		return 4 @3 -> 0
		return 4 -> 11`)
	is(t, "the event", eventText(d.Events()[8]), eventText(event(t, "9.1.3 return 4 @3")))
	is(t, "State", stateText(d.State()), "1:s:1[sex=#1]0@0 2:s:2[] 1:0:1:used 2:0:2:out 3:2:1:out 4:2:1:back [1 0 0] 0")
	// A lost device has nothing to return.
	for _, last := range []string{"0", "1", "9"} {
		d = deviceWith(t, p, 1, "1.0.1 grant 1 0 1\n2.0.2 grant 2 0 1\n3.1.1 complete 9 0 2\n4.0.3 writeoff 1 "+last)
		play(t, d, "return 1 -> 11\nreturn 2 -> 11\nreturn 3 -> 9")
	}
}
