package field

import (
	"slices"
	"strings"
	"testing"

	"canvass/api"
)

// oneOfEach returns a sound event of each kind, by its word.
func oneOfEach(t *testing.T) map[string]api.Event {
	t.Helper()
	out := map[string]api.Event{}
	for _, text := range []string{"1.0.1 create 1 1 s", "1.0.1 assign 1 1", "1.0.1 grant 1 2 1", "1.0.1 writeoff 1 0", "1.1.1 answer 1 sex=#1", "1.1.1 complete 1 0 1 sex=#1 age.2=3", "1.1.1 return 1"} {
		out[strings.Fields(text)[1]] = event(t, text)
	}
	return out
}

// change is a change of a sound event of some kinds (all, if empty), and the error that the event then has.
type change struct {
	kinds string
	do    func(e *api.Event)
	want  api.Fault
}

// holdChanges holds the errors of changed events, for all that examine events.
func holdChanges(t *testing.T, l []change) {
	t.Helper()
	p, each := workPlan(t), oneOfEach(t)
	for n, x := range l {
		words := strings.Fields(x.kinds)
		if len(words) == 0 {
			words = kindWords[1:]
		}
		for _, word := range words {
			e := each[word]
			x.do(&e)
			l := []api.Event{e}
			if fault := CheckEvents(p, l); fault != x.want {
				t.Error(n, word, "CheckEvents", fault, "not", x.want)
			}
			if _, fault := StateOf(p, l); fault != x.want {
				t.Error(n, word, "StateOf", fault, "not", x.want)
			}
			if _, fault := Restore(p, 1, l); fault != x.want {
				t.Error(n, word, "Restore", fault, "not", x.want)
			}
			if _, fault := Join(p, nil, l); fault != x.want {
				t.Error(n, word, "Join", fault, "not", x.want)
			}
			if _, fault := Join(p, l, []api.Event{{Kind: -1}}); x.want != api.OK && fault != x.want {
				t.Error(n, word, "Join", fault, "not", x.want)
			}
			d := device(t, p, 9)
			if fault := d.Receive(api.Packet{From: 1, Events: l}); fault != x.want || (len(d.Events()) == 1) != (fault == api.OK) {
				t.Error(n, word, "Receive", fault, "not", x.want)
			}
		}
	}
}

// TestSoundKinds holds ErrKind, and ErrForm for what a kind does not use, each with errors that come later (L3).
func TestSoundKinds(t *testing.T) {
	holdChanges(t, []change{
		{"", func(e *api.Event) { e.Kind, e.Clock, e.Last = 0, 0, 9 }, api.ErrKind},
		{"", func(e *api.Event) { e.Kind, e.Clock, e.Last = -1, 0, 9 }, api.ErrKind},
		{"", func(e *api.Event) { e.Kind, e.Clock, e.Last = 8, 0, 9 }, api.ErrKind},
		{"grant writeoff return", func(e *api.Event) { e.Case, e.Clock = 1, 0 }, api.ErrForm},
		{"assign grant writeoff answer complete return", func(e *api.Event) { e.Seed, e.Clock = "s", 0 }, api.ErrForm},
		{"answer complete return", func(e *api.Event) { e.To, e.Clock = 1, 0 }, api.ErrForm},
		{"create assign writeoff answer return", func(e *api.Event) { e.Cell, e.Clock = 1, 0 }, api.ErrForm},
		{"create assign writeoff answer return", func(e *api.Event) { e.Cell, e.Clock = -1, 0 }, api.ErrForm},
		{"create assign writeoff answer", func(e *api.Event) { e.Permit, e.Clock = 1, 0 }, api.ErrForm},
		{"create assign grant answer complete return", func(e *api.Event) { e.Last, e.Clock = 1, 0 }, api.ErrForm},
		{"create assign grant writeoff return", func(e *api.Event) { e.Given, e.Clock = make([]api.Given, 1), 0 }, api.ErrForm},
		{"create assign grant writeoff return", func(e *api.Event) { e.Given = []api.Given{} }, api.OK},
	})
}

// TestSoundNumbers holds the ranges of numbers, and which devices make which events, each with errors that come later (L3).
func TestSoundNumbers(t *testing.T) {
	holdChanges(t, []change{
		{"", func(*api.Event) {}, api.OK},
		{"", func(e *api.Event) { e.Clock, e.To, e.Case = 0, e.To*99, e.Case*9999 }, api.ErrRange},
		{"", func(e *api.Event) { e.Clock = -1 }, api.ErrRange},
		{"", func(e *api.Event) { e.Clock = api.MaxClock + 1 }, api.ErrRange},
		{"", func(e *api.Event) { e.Clock = api.MaxClock }, api.OK},
		{"", func(e *api.Event) { e.Device = -1 }, api.ErrRange},
		{"", func(e *api.Event) { e.Device = api.MaxDevices + 1 }, api.ErrRange},
		{"answer complete return", func(e *api.Event) { e.Device = api.MaxDevices }, api.OK},
		{"answer complete", func(e *api.Event) { e.Device = 0 }, api.OK},
		{"", func(e *api.Event) { e.Number = 0 }, api.ErrRange},
		{"", func(e *api.Event) { e.Number = api.MaxEvents + 1 }, api.ErrRange},
		{"", func(e *api.Event) { e.Minute = -1 }, api.ErrRange},
		{"", func(e *api.Event) { e.Minute = api.MaxMinute + 1 }, api.ErrRange},
		{"", func(e *api.Event) { e.Minute = api.MaxMinute }, api.OK},
		{"create assign", func(e *api.Event) { e.Device, e.Case = 1, 0 }, api.ErrDevice},
		{"grant", func(e *api.Event) { e.Device, e.Permit = 1, 0 }, api.ErrDevice},
		{"writeoff", func(e *api.Event) { e.Device, e.Last = api.MaxDevices, -1 }, api.ErrDevice},
		{"return", func(e *api.Event) { e.Device, e.Permit = 0, 0 }, api.ErrDevice},
		{"create assign answer complete", func(e *api.Event) { e.Case, e.Given = 0, slices.Repeat(e.Given, 2) }, api.ErrRange},
		{"create assign answer complete", func(e *api.Event) { e.Case = -1 }, api.ErrRange},
		{"create assign answer complete", func(e *api.Event) { e.Case = api.MaxCases + 1 }, api.ErrRange},
		{"create assign answer complete", func(e *api.Event) { e.Case = api.MaxCases }, api.OK},
		{"create", func(e *api.Event) { e.To, e.Seed = 0, strings.Repeat("s", api.MaxSeed+1) }, api.ErrRange},
		{"create assign grant writeoff", func(e *api.Event) { e.To = 0 }, api.ErrRange},
		{"create assign grant writeoff", func(e *api.Event) { e.To = api.MaxDevices + 1 }, api.ErrRange},
		{"create assign grant writeoff", func(e *api.Event) { e.To = api.MaxDevices }, api.OK},
		{"grant complete", func(e *api.Event) { e.Cell = 3 }, api.ErrRange},
		{"grant", func(e *api.Event) { e.Cell = -1 }, api.ErrRange},
		{"complete", func(e *api.Event) { e.Cell = -2 }, api.ErrRange},
		{"grant complete return", func(e *api.Event) { e.Permit = 0 }, api.ErrRange},
		{"grant complete return", func(e *api.Event) { e.Permit = -1 }, api.ErrRange},
		{"grant complete return", func(e *api.Event) { e.Permit = api.MaxEvents + 1 }, api.ErrRange},
		{"grant complete return", func(e *api.Event) { e.Permit = api.MaxEvents }, api.OK},
		// Permit is 0 just if Cell is -1.
		{"complete", func(e *api.Event) { e.Cell, e.Given = -1, slices.Repeat(e.Given, 2) }, api.ErrRange},
		{"complete", func(e *api.Event) { e.Cell, e.Permit = -1, 0 }, api.OK},
		{"complete", func(e *api.Event) { e.Cell, e.Permit = -2, 0 }, api.ErrRange},
		{"writeoff", func(e *api.Event) { e.Last = -1 }, api.ErrRange},
		{"writeoff", func(e *api.Event) { e.Last = api.MaxEvents + 1 }, api.ErrRange},
		{"writeoff", func(e *api.Event) { e.Last = api.MaxEvents }, api.OK},
	})
}

// TestSoundContents holds the errors of seeds and of given answers (L3).
func TestSoundContents(t *testing.T) {
	give := func(l ...api.Given) func(e *api.Event) { return func(e *api.Event) { e.Given = l } }
	nobody, twice := api.Given{Key: api.Key{Name: "nobody"}}, answer(t, "sex=#1")
	holdChanges(t, []change{
		{"create", func(e *api.Event) { e.Seed = "" }, api.OK},
		{"create", func(e *api.Event) { e.Seed = strings.Repeat("~", api.MaxSeed) }, api.OK},
		{"create", func(e *api.Event) { e.Seed = strings.Repeat(" ", api.MaxSeed+1) }, api.ErrLarge},
		{"create", func(e *api.Event) { e.Seed = "a b" }, api.ErrRange},
		{"create", func(e *api.Event) { e.Seed = "\x7f" }, api.ErrRange},
		{"answer", give(), api.ErrForm},
		{"answer", give(nobody, nobody), api.ErrForm},
		{"complete", give(), api.OK},
		{"answer complete", give(nobody), api.ErrName},
		{"answer complete", give(answer(t, "old=1")), api.ErrName},
		{"answer complete", give(answer(t, "age=1")), api.ErrForm},
		{"answer complete", give(answer(t, "age.0=1")), api.ErrRange},
		{"answer complete", give(api.Given{Key: twice.Key, Value: api.Value{Kind: 9}}), api.ErrKind},
		{"answer complete", give(api.Given{Key: twice.Key, Value: api.Value{Kind: api.Choice}}), api.ErrRange},
		{"answer complete", give(answer(t, "sex=true")), api.ErrKind},
		{"complete", give(twice, answer(t, "kids=1"), answer(t, "sex=-")), api.ErrTwice},
		{"complete", give(twice, twice, nobody), api.ErrTwice},
		// Sound, whatever it means, and in whatever order.
		{"answer complete", give(answer(t, "sex=-")), api.OK},
		{"answer complete", give(answer(t, "age.999='x'")), api.OK},
		{"complete", give(answers(t, "age.2=1", "age.1=1", "kids=99", "sex={#3}")...), api.OK},
	})
}

// TestCheckEvents holds the errors of a list of events, in order (L3).
func TestCheckEvents(t *testing.T) {
	p := workPlan(t)
	for _, x := range []struct {
		lines string
		want  api.Fault
	}{
		{"", api.OK},
		{"1.0.1 assign 1 1\n2.1.1 return 1\n2.2.1 return 1\n3.0.2 assign 1 1\n3.1.2 return 1\n4.1.3 return 1", api.OK},
		// The order: by Clock, then by Device, then by Number.
		{"2.0.1 assign 1 1\n1.1.1 return 1", api.ErrOrder}, {"1.2.1 return 1\n1.1.1 return 1", api.ErrOrder}, {"1.1.2 return 1\n1.1.1 return 1", api.ErrOrder},
		{"1.1.1 return 1\n1.1.1 return 2", api.ErrTwice}, {"1.1.1 return 1\n1.1.1 return 1", api.ErrTwice},
		// One event after the other, each one for all of its errors.
		{"2.1.1 return 1\n1.1.2 return 1\n3.1.3 return 0", api.ErrOrder}, {"2.1.1 return 1\n2.1.1 return 1\n1.1.1 return 1", api.ErrTwice}, {"2.1.1 return 1\n2.1.1 return 0", api.ErrRange}, {"2.1.1 return 1\n1.0.1 return 1", api.ErrDevice},
		// Then ErrConflict, for all events; then ErrOrder; then ErrNone.
		{"1.1.1 return 1\n2.1.1 return 1", api.ErrConflict}, {"1.1.2 return 1\n2.1.1 return 1\n3.1.4 return 1\n4.2.5 return 1\n5.2.5 return 1", api.ErrConflict}, {"1.1.1 return 1\n1.2.1 return 1", api.OK},
		{"1.1.1 return 1\n2.1.1 return 1\n2.1.0 return 1", api.ErrRange}, {"2.1.1 return 1\n3.1.1 return 1\n1.2.1 return 1", api.ErrOrder},
		{"1.1.2 return 1\n2.1.1 return 1", api.ErrOrder}, {"1.1.1 return 1\n1.1.2 return 1", api.ErrOrder}, {"1.1.1 return 1\n2.1.4 return 1\n3.1.2 return 1", api.ErrOrder}, {"1.1.7 return 1\n1.2.1 return 1\n1.2.2 return 1", api.ErrOrder},
		{"1.1.2 return 1", api.ErrNone}, {"1.1.1 return 1\n2.1.3 return 1", api.ErrNone}, {"1.0.1 assign 1 1\n1.1.1 return 1\n2.1.2 return 1\n3.3.2 return 1", api.ErrNone}, {"1.0.2 assign 1 1\n2.1.1 return 1", api.ErrNone},
	} {
		l := events(t, x.lines)
		if fault := CheckEvents(p, l); fault != x.want {
			t.Errorf("CheckEvents of %q: %d, not %d", x.lines, fault, x.want)
		}
		if s, fault := StateOf(p, l); fault != x.want || fault != api.OK && len(s.Filled) > 0 {
			t.Errorf("StateOf of %q: %d, not %d", x.lines, fault, x.want)
		}
		if d, fault := Restore(p, 1, l); fault != x.want || (d == nil) != (fault != api.OK) {
			t.Errorf("Restore of %q: %d, not %d", x.lines, fault, x.want)
		}
		if all, fault := Join(p, l, nil); fault != x.want || eventsText(all) != eventsText(l) && fault == api.OK || fault != api.OK && len(all) > 0 {
			t.Errorf("Join of %q: %d, not %d", x.lines, fault, x.want)
		}
	}
}

// manyEvents returns a set of so many events of a device, whose Clocks begin behind some number.
func manyEvents(n, device, clock int) []api.Event {
	out := make([]api.Event, n)
	for i := range out {
		out[i] = api.Event{Clock: clock + i + 1, Device: device, Number: i + 1, Kind: api.EvReturn, Permit: 1}
	}
	return out
}

// TestManyEvents holds ErrLarge of sets (L3).
func TestManyEvents(t *testing.T) {
	p := workPlan(t)
	l := manyEvents(api.MaxEvents, 1, 0)
	if fault := CheckEvents(p, l); fault != api.OK {
		t.Error("CheckEvents of a large set", fault)
	}
	if fault := CheckEvents(p, append(slices.Clone(l), api.Event{})); fault != api.ErrLarge {
		t.Error("CheckEvents of too many events", fault)
	}
	if all, fault := Join(p, l, l); fault != api.OK || len(all) != len(l) {
		t.Error("Join of a large set with itself", fault)
	}
	if all, fault := Join(p, l, manyEvents(1, 2, 7)); fault != api.ErrLarge || len(all) > 0 {
		t.Error("Join of too many events", fault)
	}
	if all, fault := Join(p, l[:api.MaxEvents-1], manyEvents(1, 2, 7)); fault != api.OK || len(all) != api.MaxEvents || all[7].Device != 1 || all[8].Device != 2 {
		t.Error("Join to a large set", fault)
	}
	// ErrConflict comes ahead of ErrLarge.
	other := manyEvents(1, 1, 0)
	other[0].Permit = 2
	if _, fault := Join(p, l, append(other, manyEvents(2, 2, 8)...)); fault != api.ErrConflict {
		t.Error("Join of too many events with a conflict", fault)
	}
}

// TestJoin holds that a join has all events of both sets, in the order (L3).
func TestJoin(t *testing.T) {
	p := workPlan(t)
	a := events(t, "1.0.1 create 1 1 s\n2.1.1 answer 1 sex=#1\n4.1.2 complete 1 0 1 sex=#1")
	b := events(t, "1.0.1 create 1 1 s\n2.0.2 assign 1 2\n2.2.1 answer 1 sex=#2 @7\n5.0.3 writeoff 1 0")
	all := events(t, "1.0.1 create 1 1 s\n2.0.2 assign 1 2\n2.1.1 answer 1 sex=#1\n2.2.1 answer 1 sex=#2 @7\n4.1.2 complete 1 0 1 sex=#1\n5.0.3 writeoff 1 0")
	for _, x := range [][2][]api.Event{{a, b}, {b, a}, {all, a}, {b, all}, {all, all}, {nil, all}, {all, nil}} {
		got, fault := Join(p, x[0], x[1])
		if fault != api.OK || CheckEvents(p, got) != api.OK {
			t.Error("Join", fault)
		}
		is(t, "Join", eventsText(got), eventsText(all))
	}
	if got, fault := Join(p, nil, nil); len(got) > 0 || fault != api.OK {
		t.Error("Join of nothing", got, fault)
	}
}

// TestJoinErrors holds the errors of Join, in order (L3).
func TestJoinErrors(t *testing.T) {
	p := workPlan(t)
	base := "1.1.1 answer 1 sex=#1\n2.1.2 complete 1 0 1 age.1=1 age.2={#1} @5\n3.0.1 create 1 1 s\n4.0.2 grant 1 1 1\n5.0.3 writeoff 1 0"
	a := events(t, base)
	for _, change := range []func(l []api.Event){
		func(l []api.Event) { l[4].Clock++ }, func(l []api.Event) { l[0].Minute++ }, func(l []api.Event) { l[0].Case++ }, func(l []api.Event) { l[2].Seed += "x" }, func(l []api.Event) { l[2].To++ },
		func(l []api.Event) { l[3].Cell++ }, func(l []api.Event) { l[3].Permit++ }, func(l []api.Event) { l[4].Last++ },
		func(l []api.Event) { l[0].Kind, l[0].Cell = api.EvComplete, -1 },
		func(l []api.Event) { l[0].Given[0].Value.N++ }, func(l []api.Event) { l[0].Given[0].Value = api.Value{} }, func(l []api.Event) { l[0].Given[0].Key.Name = "kids" },
		func(l []api.Event) { l[1].Given[0].Key.Row[0] = 3 }, func(l []api.Event) { l[1].Given[1].Value.Set[0]++ }, func(l []api.Event) { l[1].Given = l[1].Given[:1] }, func(l []api.Event) { slices.Reverse(l[1].Given) },
	} {
		b := events(t, base)
		change(b)
		for _, x := range [][2][]api.Event{{a, b}, {b, a}} {
			if got, fault := Join(p, x[0], x[1]); fault != api.ErrConflict || len(got) > 0 {
				t.Error("Join of different events", eventsText(b), fault)
			}
		}
		if fault := deviceWith(t, p, 1, base).Receive(api.Packet{Events: b}); fault != api.ErrConflict {
			t.Error("Receive of different events", eventsText(b), fault)
		}
	}
	// nil and an empty list are the same.
	b := events(t, base)
	b[0].Given[0].Key.Row, b[0].Given[0].Value.Set, b[2].Given = []int{}, []int{}, []api.Given{}
	if got, fault := Join(p, a, b); fault != api.OK || len(got) != len(a) {
		t.Error("Join with empty lists", fault)
	}
	wrong, worse := events(t, "1.1.1 return 1\n1.1.1 return 1"), events(t, "1.1.2 return 1")
	for _, x := range []struct {
		a, b []api.Event
		want api.Fault
	}{{wrong, worse, api.ErrTwice}, {worse, wrong, api.ErrNone}, {a, wrong, api.ErrTwice}, {events(t, "1.1.1 return 1"), worse, api.ErrNone}} {
		if got, fault := Join(p, x.a, x.b); fault != x.want || len(got) > 0 {
			t.Error("Join", fault, "not", x.want)
		}
	}
	// A conflict in the Device and Number alone, with another Clock.
	if _, fault := Join(p, events(t, "1.1.1 return 1\n3.1.2 return 1"), events(t, "1.1.1 return 1\n2.1.2 return 1\n3.1.3 return 1")); fault != api.ErrConflict {
		t.Error("Join of events with other Clocks", fault)
	}
}
