package field

import (
	"reflect"
	"testing"

	"canvass/api"
)

// eachList calls do with each list that can be reached and has memory.
func eachList(v reflect.Value, do func(list reflect.Value)) {
	switch v.Kind() {
	case reflect.Interface, reflect.Pointer:
		eachList(v.Elem(), do)
	case reflect.Struct:
		for i := range v.NumField() {
			eachList(v.Field(i), do)
		}
	case reflect.Slice:
		if v.Cap() == 0 {
			return
		}
		do(v)
		for i := range v.Len() {
			eachList(v.Index(i), do)
		}
	}
}

// widen gives a list spare capacity, which has copies of its first element.
func widen(list reflect.Value) {
	if n := list.Len(); n > 0 {
		list.Set(reflect.Append(reflect.AppendSlice(reflect.MakeSlice(list.Type(), 0, n+2), list), list.Index(0), list.Index(0)).Slice(0, n))
	}
}

// whole returns a copy of a list with its spare capacity.
func whole(list reflect.Value) any {
	all := list.Slice(0, list.Cap())
	return reflect.AppendSlice(reflect.MakeSlice(list.Type(), 0, all.Len()), all).Interface()
}

// spoil overwrites all numbers and texts that can be reached.
func spoil(v reflect.Value) {
	switch v.Kind() {
	case reflect.Interface, reflect.Pointer:
		spoil(v.Elem())
	case reflect.Struct:
		for i := range v.NumField() {
			spoil(v.Field(i))
		}
	case reflect.Slice:
		for i := range v.Len() {
			spoil(v.Index(i))
		}
	case reflect.Int:
		if v.CanSet() {
			v.SetInt(-77)
		}
	case reflect.String:
		if v.CanSet() {
			v.SetString("?")
		}
	}
}

// lent is arguments of all functions.
type lent struct {
	Plan    api.Plan
	Set     []api.Event
	More    []api.Event
	Given   []api.Given
	Answers []api.Given
	Marks   []api.Mark
	Message api.Packet
}

func lend(t *testing.T) *lent {
	t.Helper()
	p := planWith(t, "form f 1\nlanguages en\nlist l\n  option 1 \"One\"\n  option 2 \"Two\"\npage p\n  question a choices l 0 2 reasons refused\n    only option <> #9\n    check answered(a)\n      text \"No\"\nloop row over a\n  page q\n    question b number 0 9\n", "one 5 a = {#1} or sum(row: b) > 3", "two 5 a has #2 and true")
	set := events(t, "1.0.1 create 1 1 s\n2.0.2 create 2 1 s\n3.0.3 grant 1 0 1\n4.0.4 grant 2 1 1\n4.1.1 answer 2 a={#1,#2}\n5.1.2 complete 1 0 1 a={#1} b.1=2")
	return &lent{
		Plan: p, Set: set, More: events(t, "1.0.1 create 1 1 s\n2.0.2 create 2 1 s\n2.3.1 answer 2 b.2=1"),
		Given: answers(t, "a={#1,#2}", "b.2=3"), Answers: answers(t, "a={#2}", "b.2=2"), Marks: []api.Mark{{Device: 0, Number: 2}, {Device: 3, Number: 1}},
		Message: api.Packet{From: 3, Known: []api.Mark{{Device: 0, Number: 1}}, Events: events(t, "2.3.1 answer 2 b.2=1\n7.0.5 assign 1 1\n9.2.1 complete 2 1 2 a={#2} b.2=7")},
	}
}

// device returns the device 1 with the set and the message.
func (g *lent) device(t *testing.T) *Device {
	t.Helper()
	d, fault := Restore(g.Plan, 1, g.Set)
	if fault != api.OK {
		t.Fatal("Restore", fault)
	}
	for _, a := range g.Answers {
		if fault := d.Answer(2, a, 5); fault != api.OK {
			t.Fatal("Answer", fault)
		}
	}
	if fault := d.Receive(g.Message); fault != api.OK {
		t.Fatal("Receive", fault)
	}
	return d
}

func (g *lent) results(t *testing.T) []any {
	t.Helper()
	var out []any
	add := func(result any, fault api.Fault) {
		if fault != api.OK {
			t.Fatal("a function fails", len(out), result, fault)
		}
		out = append(out, result)
	}
	add(nil, CheckPlan(g.Plan))
	cell, fault := CellOf(g.Plan, "s", g.Given)
	add(cell, fault)
	add(nil, CheckEvents(g.Plan, g.Set))
	joined, fault := Join(g.Plan, g.Set, g.More)
	add(joined, fault)
	joined, fault = Join(g.Plan, g.More, nil)
	add(joined, fault)
	state, fault := StateOf(g.Plan, g.Set)
	add(state, fault)
	d := g.device(t)
	for range 2 {
		m, fault := d.Send(g.Marks)
		add(m, fault)
		add([]any{d.Events(), d.Known(), d.State()}, api.OK)
	}
	add(nil, d.Complete(2, 6))
	add([]any{d.Events(), d.Known(), d.State()}, api.OK)
	return out
}

// TestMemory holds that no function changes what it is given, or the memory behind it, and that no two lists of results share memory (G2); and that the same calls have the same results (G4).
func TestMemory(t *testing.T) {
	g := lend(t)
	arguments := reflect.ValueOf(g)
	var before []any
	seen := map[uintptr]bool{}
	eachList(arguments, widen)
	eachList(arguments, func(list reflect.Value) {
		seen[list.Pointer()] = true
		before = append(before, whole(list))
	})
	first, second := g.results(t), g.results(t)
	if !reflect.DeepEqual(first, second) {
		t.Error("results differ from call to call", first, second)
	}
	lists := 0
	for _, result := range append(first, second...) {
		eachList(reflect.ValueOf(&result), func(list reflect.Value) {
			lists++
			if seen[list.Pointer()] {
				t.Error("memory is shared", list)
			}
			seen[list.Pointer()] = true
		})
	}
	if lists < 200 {
		t.Error("few lists", lists)
	}
	eachList(arguments, func(list reflect.Value) {
		if !reflect.DeepEqual(before[0], whole(list)) {
			t.Error("an argument is changed", before[0], list)
		}
		before = before[1:]
	})
}

// TestNothingKept holds that a device keeps nothing of its arguments, and that its results are not its own memory (G2).
func TestNothingKept(t *testing.T) {
	g, other := lend(t), lend(t)
	d, twin := g.device(t), other.device(t)
	spoil(reflect.ValueOf(g))
	hold := func(what string) {
		t.Helper()
		m, _ := d.Send(nil)
		is(t, what+", the message", []any{m.From, m.Known, eventsText(m.Events)}, []any{1, twin.Known(), eventsText(twin.Events())})
		is(t, what+", State", stateText(d.State()), stateText(twin.State()))
	}
	hold("arguments are changed")
	m, _ := d.Send(nil)
	l, known, s := d.Events(), d.Known(), d.State()
	for _, result := range []any{&m, &l, &known, &s} {
		spoil(reflect.ValueOf(result))
	}
	hold("results are changed")
	for _, x := range []*Device{d, twin} {
		if fault := x.Answer(2, answer(t, "a={#1,#2}"), 0); fault != api.OK {
			t.Error("Answer", fault)
		}
		if fault := x.Complete(2, 0); fault != api.OK {
			t.Error("Complete", fault)
		}
	}
	hold("a completion")
	l = d.Events()
	spoil(reflect.ValueOf(&l))
	hold("a completion is changed")
}
