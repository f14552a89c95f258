package interview

import (
	"reflect"
	"runtime"
	"testing"

	"canvass/api"
)

// eachList calls do with each list that can be reached and has memory.
func eachList(v reflect.Value, do func(list reflect.Value)) {
	switch v.Kind() {
	case reflect.Struct:
		for i := range v.NumField() {
			eachList(v.Field(i), do)
		}
	case reflect.Slice:
		if v.Cap() == 0 {
			return
		}
		do(v)
		for i := range v.Len() {
			eachList(v.Index(i), do)
		}
	}
}

// widen gives a list spare capacity, which has copies of its first element.
func widen(list reflect.Value) {
	if n := list.Len(); n > 0 {
		list.Set(reflect.Append(reflect.AppendSlice(reflect.MakeSlice(list.Type(), 0, n+2), list), list.Index(0), list.Index(0)).Slice(0, n))
	}
}

// TestMemory holds that no function changes what it is given, or the memory behind it, and that no two lists of results share memory (G2); and that the same calls have the same results (G4).
func TestMemory(t *testing.T) {
	f := listed(t, homeLines+"block b shuffle\n  page x\n  page y\n    question z choices mix 0 4 shuffle\n      only option <> #5\n      soft false\n")
	l := answers(t, "got=#1 many=2 age.2=7 bye={#5,#7} age.9=1 z={#7}")
	steps := []api.Step{
		{Kind: api.StepGive, Given: answers(t, "got=#1 note='x'")}, {Kind: api.StepNext}, {Kind: api.StepGive, Given: answers(t, "many=2")}, {Kind: api.StepNext},
		{Kind: api.StepChange, Given: answers(t, "age.1=3")}, {Kind: api.StepJump, Page: key("kid", 2)}, {Kind: api.StepGive, Given: answers(t, "age.2=3")}, {Kind: api.StepChange, Given: answers(t, "bye={#5,#7}")}, {Kind: api.StepChange, Given: answers(t, "z={#7}")},
		{Kind: api.StepChange, Given: answers(t, "many=1")},
	}
	arguments := []reflect.Value{reflect.ValueOf(&f).Elem(), reflect.ValueOf(&l).Elem(), reflect.ValueOf(&steps).Elem()}
	var before []any
	seen := map[uintptr]bool{}
	for _, argument := range arguments {
		eachList(argument, widen)
		eachList(argument, func(list reflect.Value) {
			seen[list.Pointer()] = true
			all := list.Slice(0, list.Cap())
			before = append(before, reflect.AppendSlice(reflect.MakeSlice(list.Type(), 0, all.Len()), all).Interface())
		})
	}
	call := func() []any {
		r, fault := RouteOf(f, "s", l)
		data, fault2 := Data(f, "s", l)
		s, fault3 := SceneOf(f, "s", l)
		i, _, fault4 := Replay(f, "s", 0, steps)
		if fault+fault2+fault3+fault4 != api.OK {
			t.Fatal("a function fails", fault, fault2, fault3, fault4)
		}
		results := []any{r, data, s}
		for range 2 {
			page, _ := i.Page()
			results = append(results, page, i.Questions(), i.Route(), i.Data(), i.Beside(), i.Journal(), i.Spent())
		}
		// What is given out behind further steps is new, too.
		for _, s := range steps[8:] {
			if makeStep(t, i, s) != api.OK {
				t.Error("a step again", s)
			}
		}
		return append(results, i.Route(), i.Data(), i.Journal())
	}
	first, second := call(), call()
	if !reflect.DeepEqual(first, second) {
		t.Error("results differ from call to call", first, second)
	}
	lists := 0
	for _, result := range append(first, second...) {
		eachList(reflect.ValueOf(result), func(list reflect.Value) {
			lists++
			if seen[list.Pointer()] {
				t.Error("memory is shared", list, result)
			}
			seen[list.Pointer()] = true
		})
	}
	if lists < 200 {
		t.Error("few lists", lists)
	}
	runtime.KeepAlive(first)
	n := 0
	for _, argument := range arguments {
		eachList(argument, func(list reflect.Value) {
			if !reflect.DeepEqual(list.Slice(0, list.Cap()).Interface(), before[n]) {
				t.Error("an argument is changed", before[n])
			}
			n++
		})
	}
}
