package sample

import (
	"reflect"
	"testing"

	"canvass/api"
)

// eachList calls do with each list that can be reached and has memory.
func eachList(v reflect.Value, do func(list reflect.Value)) {
	switch v.Kind() {
	case reflect.Interface, reflect.Pointer:
		eachList(v.Elem(), do)
	case reflect.Struct:
		for i := range v.NumField() {
			eachList(v.Field(i), do)
		}
	case reflect.Slice:
		if v.Cap() == 0 {
			return
		}
		do(v)
		for i := range v.Len() {
			eachList(v.Index(i), do)
		}
	}
}

// widen gives a list spare capacity, which has copies of its first element.
func widen(list reflect.Value) {
	if n := list.Len(); n > 0 {
		list.Set(reflect.Append(reflect.AppendSlice(reflect.MakeSlice(list.Type(), 0, n+2), list), list.Index(0), list.Index(0)).Slice(0, n))
	}
}

// whole returns a copy of a list with its spare capacity.
func whole(list reflect.Value) any {
	all := list.Slice(0, list.Cap())
	return reflect.AppendSlice(reflect.MakeSlice(list.Type(), 0, all.Len()), all).Interface()
}

// given is arguments of all functions.
type given struct {
	Units                        []api.Unit
	Designs                      []api.Design
	Weights, Least, Most, Shares []int
	Calling                      api.Calling
	Attempts                     []api.Attempt
}

func resultsOf(t *testing.T, g given) []any {
	t.Helper()
	var out []any
	add := func(result any, fault api.Fault) {
		if fault != api.OK {
			t.Fatal("a function fails", result, fault)
		}
		out = append(out, result)
	}
	add(nil, CheckFrame(g.Units))
	strata, fault := Strata(g.Units)
	add(strata, fault)
	numbers, fault := Allocate(g.Weights, g.Least, g.Most, 9)
	add(numbers, fault)
	hits, fault := Hits(g.Shares, 3, 1)
	add(hits, fault)
	for _, d := range g.Designs {
		add(nil, CheckDesign(d, g.Units))
		picks, fault := Draw(d, g.Units, "s")
		add(picks, fault)
		chances, fault := Chances(d, g.Units)
		add(chances, fault)
		joint, fault := Joint(d, g.Units, 1, 15)
		add(joint, fault)
		samples, fault := Samples(d, g.Units)
		add(samples, fault)
	}
	groups, fault := Groups(api.Rotation{In: 4, Out: 8, Again: 4}, 30)
	add(groups, fault)
	outcome, fault := Outcome(g.Attempts)
	add(outcome, fault)
	add(nil, CheckCalling(g.Calling))
	due, is, fault := Due(g.Calling, g.Attempts, 5)
	add([]any{due, is}, fault)
	rates, fault := Rates(g.Shares)
	add(rates, fault)
	return out
}

// TestMemory holds that no function changes what it is given, or the memory behind it, and that no two lists of results share memory (G2); and that the same calls have the same results (G4).
func TestMemory(t *testing.T) {
	g := given{
		Units:   frame(t, mixed),
		Designs: []api.Design{design(t, api.DesignSimple, "a 2 0", "b 3 0"), design(t, api.DesignSystematic, "a 2 0", "b 3 0"), design(t, api.DesignStages, "a 1 1", "b 2 1")},
		Weights: []int{3, 1, 2}, Least: []int{1, 0, 2}, Most: []int{5, 5, 5}, Shares: []int{4, 1, 7},
		Calling:  api.Calling{Most: 5, Weekdays: []int{0, 3}, Windows: windows(1, 5, 5, 9)},
		Attempts: attempts(1, 6, 7, 5),
	}
	arguments := reflect.ValueOf(&g)
	var before []any
	seen := map[uintptr]bool{}
	eachList(arguments, widen)
	eachList(arguments, func(list reflect.Value) {
		seen[list.Pointer()] = true
		before = append(before, whole(list))
	})
	first, second := resultsOf(t, g), resultsOf(t, g)
	if !reflect.DeepEqual(first, second) {
		t.Error("results differ from call to call", first, second)
	}
	eachList(reflect.ValueOf(append(first, second...)), func(list reflect.Value) {
		if seen[list.Pointer()] {
			t.Error("memory is shared", list)
		}
		seen[list.Pointer()] = true
	})
	eachList(arguments, func(list reflect.Value) {
		if !reflect.DeepEqual(before[0], whole(list)) {
			t.Error("an argument is changed", before[0], list)
		}
		before = before[1:]
	})
}

// TestSamplesApart holds that a sample that grows does not run into another one.
func TestSamplesApart(t *testing.T) {
	l, d := frame(t, mixed), design(t, api.DesignStages, "a 1 1", "b 2 1")
	samples, _ := Samples(d, l)
	again, _ := Samples(d, l)
	for i := range samples {
		samples[i].Ids = append(samples[i].Ids, -1)
	}
	for i, s := range samples {
		if !reflect.DeepEqual(s.Ids[:len(s.Ids)-1], again[i].Ids) {
			t.Fatal("sample", i, s.Ids, again[i].Ids)
		}
	}
}
