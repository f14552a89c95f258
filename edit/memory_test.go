package edit

import (
	"reflect"
	"testing"

	"canvass/api"
)

// eachList calls do with each list that can be reached and has memory.
func eachList(v reflect.Value, do func(list reflect.Value)) {
	switch v.Kind() {
	case reflect.Interface, reflect.Pointer:
		eachList(v.Elem(), do)
	case reflect.Struct:
		for i := range v.NumField() {
			eachList(v.Field(i), do)
		}
	case reflect.Slice:
		if v.Cap() == 0 {
			return
		}
		do(v)
		for i := range v.Len() {
			eachList(v.Index(i), do)
		}
	}
}

// widen gives a list spare capacity, which has copies of its first element.
func widen(list reflect.Value) {
	if n := list.Len(); n > 0 {
		list.Set(reflect.Append(reflect.AppendSlice(reflect.MakeSlice(list.Type(), 0, n+2), list), list.Index(0), list.Index(0)).Slice(0, n))
	}
}

// whole returns a copy of a list with its spare capacity.
func whole(list reflect.Value) any {
	all := list.Slice(0, list.Cap())
	return reflect.AppendSlice(reflect.MakeSlice(list.Type(), 0, all.Len()), all).Interface()
}

// lent is arguments of all functions.
type lent struct {
	Plan, None   api.EditPlan
	Record, Free []int
	Records      [][]int
	Repairs      []api.Repair
	Data         []api.Given
}

func lend(t *testing.T) *lent {
	t.Helper()
	return &lent{
		Plan:   planWith(t, "field a 1,2,3", "field b 5,6", "field c 1,2", "edit e: a 1,2; b 5", "edit f: a 1; b 5", "edit g: a 3; c 1"),
		None:   planWith(t, "field a 1,2,3", "field b 5,6", "field c 1,2", "edit e: a 1,2", "edit f: a 3", "edit g: b 5"),
		Record: []int{1, 5, 0}, Free: []int{0, 2}, Records: [][]int{{1, 6, 1}, {1, 5, 1}, {3, 5, 1}, {1, 6, 2}, {0, 0, 0}},
		Repairs: []api.Repair{{Record: []int{1, 6, 1}, Donor: -1}, {Record: []int{3, 5, 2}, Fields: []int{0, 2}, Donor: 3}, {Record: []int{3, 5, 1}, Donor: -1}, {Record: []int{1, 6, 2}, Donor: -1}, {Record: []int{0, 0, 1}, Fields: []int{2}, Donor: 0}},
		Data:    given(t, "a=#1", "x={#1,#3}", "b=#5", "y.1.2='z'", "c={#2}"),
	}
}

func resultsOf(t *testing.T, g *lent) []any {
	t.Helper()
	var out []any
	add := func(result any, fault api.Fault) {
		t.Helper()
		if fault != api.OK {
			t.Fatal("a function fails", result, fault)
		}
		out = append(out, result)
	}
	add(nil, CheckPlan(g.Plan))
	text, fault := Text(g.Plan)
	add(text, fault)
	p, line, fault := Read(text)
	add([]any{p, line}, fault)
	fails, fault := Fails(g.Plan, g.Record)
	add(fails, fault)
	passes, fault := Passes(g.Plan, g.Record)
	add(passes, fault)
	first, is, fault := First(g.Plan, g.Record, g.Free)
	add([]any{first, is}, fault)
	first, is, fault = First(g.Plan, g.Records[0], nil)
	add([]any{first, is}, fault)
	primes, fault := Primes(g.Plan)
	add(primes, fault)
	redundant, fault := Redundant(g.Plan)
	add(redundant, fault)
	clash, is, fault := Clash(g.None)
	add([]any{clash, is}, fault)
	least, fault := Least(g.Plan, g.Record)
	add(least, fault)
	for _, record := range g.Records {
		repair, fault := Impute(g.Plan, record, g.Records, "s")
		add(repair, fault)
		repair, fault = Impute(g.Plan, record, nil, "s")
		add(repair, fault)
	}
	repairs, fault := Repairs(g.Plan, g.Records, "s")
	add(repairs, fault)
	report, fault := Report(g.Plan, g.Records, g.Repairs)
	add(report, fault)
	record, fault := Record(g.Plan, g.Data)
	add(record, fault)
	for _, record := range g.Records {
		changed, fault := Changed(g.Plan, g.Data, record)
		add(changed, fault)
	}
	return out
}

// TestMemory holds that no function changes what it is given, or the memory behind it, and that no two lists of results share memory (G2); and that the same calls have the same results (G4).
func TestMemory(t *testing.T) {
	g := lend(t)
	arguments := reflect.ValueOf(g)
	var before []any
	seen := map[uintptr]bool{}
	eachList(arguments, widen)
	eachList(arguments, func(list reflect.Value) {
		seen[list.Pointer()] = true
		before = append(before, whole(list))
	})
	first, second := resultsOf(t, g), resultsOf(t, g)
	if !reflect.DeepEqual(first, second) {
		t.Error("results differ from call to call", first, second)
	}
	eachList(reflect.ValueOf(append(first, second...)), func(list reflect.Value) {
		if seen[list.Pointer()] {
			t.Error("memory is shared", list)
		}
		seen[list.Pointer()] = true
	})
	eachList(arguments, func(list reflect.Value) {
		if !reflect.DeepEqual(before[0], whole(list)) {
			t.Error("an argument is changed", before[0], list)
		}
		before = before[1:]
	})
}
