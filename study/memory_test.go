package study

import (
	"reflect"
	"testing"

	"canvass/api"
)

// eachList calls do with each list that can be reached and has memory.
func eachList(v reflect.Value, do func(list reflect.Value)) {
	switch v.Kind() {
	case reflect.Interface, reflect.Pointer:
		eachList(v.Elem(), do)
	case reflect.Struct:
		for i := range v.NumField() {
			eachList(v.Field(i), do)
		}
	case reflect.Slice:
		if v.Cap() == 0 {
			return
		}
		do(v)
		for i := range v.Len() {
			eachList(v.Index(i), do)
		}
	}
}

// widen gives a list spare capacity, which has copies of its first element.
func widen(list reflect.Value) {
	if n := list.Len(); n > 0 {
		list.Set(reflect.Append(reflect.AppendSlice(reflect.MakeSlice(list.Type(), 0, n+2), list), list.Index(0), list.Index(0)).Slice(0, n))
	}
}

// withSpare returns a copy of a list with its spare capacity.
func withSpare(list reflect.Value) any {
	all := list.Slice(0, list.Cap())
	return reflect.AppendSlice(reflect.MakeSlice(list.Type(), 0, all.Len()), all).Interface()
}

// lent is arguments of all functions.
type lent struct {
	Form, Old, New api.Form
	Data           []api.Datum
	Nets           []api.Net
	Others         []api.Net
	Table          api.Table
	Maps           []api.Map
	Given          []api.Given
}

func lend(t *testing.T) *lent {
	t.Helper()
	g := &lent{
		Form: formOf(t, homeLines), Old: formOf(t, oldLines), New: formOf(t, newLines), Data: fullData(t),
		Nets: []api.Net{net("a", 3, 5), net("b", 7)}, Others: []api.Net{net("all", 1, 2), net("one", 1)},
		Table: tableOf(t, "a: grown and true | b: sex in {#1,#2}", "c: any(row: kid > 1) | d: likes has #3", "true or false", "age + 1"),
		Maps:  mapsOf(t, "age years, note remark, sex gender 2>2 3>0, taste taste 5>9"),
		Given: answers(t, "age=20 sex=#1 taste={#4,#5} kid.2=5 toy.1=#1 kids=2 gone=1 note=-"),
	}
	g.Table.Test = true
	return g
}

func resultsOf(t *testing.T, g *lent) []any {
	t.Helper()
	var out []any
	add := func(result any, fault api.Fault) {
		t.Helper()
		if fault != api.OK {
			t.Fatal("a function fails", result, fault)
		}
		out = append(out, result)
	}
	add(nil, CheckData(g.Form, g.Data))
	lines, fault := LinesOf(g.Form, "likes", g.Nets)
	add(lines, fault)
	lines, fault = LinesOf(g.Form, "sex", g.Others)
	add(lines, fault)
	add(nil, CheckTable(g.Form, g.Table))
	counted, fault := Count(g.Form, g.Table, g.Data)
	add(counted, fault)
	text, fault := Show(g.Form, g.Table, g.Data, 2)
	add(text, fault)
	book, fault := Codebook(g.Form, 1)
	add(book, fault)
	text, fault = DataText(g.Form, g.Data)
	add(text, fault)
	data, line, fault := ReadData(g.Form, text)
	add([]any{data, line}, fault)
	add(nil, CheckMaps(g.Old, g.New, g.Maps))
	maps, fault := Suggest(g.New, g.Old)
	add(maps, fault)
	carried, lost, fault := Carry(g.Old, g.New, g.Maps, g.Given)
	add([]any{carried, lost}, fault)
	if len(carried) < 5 || len(lost) < 2 {
		t.Error("little is carried, or lost", answersText(carried), lostText(lost))
	}
	add(Run(consoleLines+"end\ncase 1 1 s\nstate 0\n"), api.OK)
	return out
}

// TestMemory holds that no function changes what it is given, or the memory behind it, and that no two lists of results share memory (G2); and that the same calls have the same results (G4).
func TestMemory(t *testing.T) {
	g := lend(t)
	arguments := reflect.ValueOf(g)
	var before []any
	seen := map[uintptr]bool{}
	eachList(arguments, widen)
	eachList(arguments, func(list reflect.Value) {
		seen[list.Pointer()] = true
		before = append(before, withSpare(list))
	})
	first, second := resultsOf(t, g), resultsOf(t, g)
	if !reflect.DeepEqual(first, second) {
		t.Error("results differ from call to call", first, second)
	}
	lists := 0
	eachList(reflect.ValueOf(append(first, second...)), func(list reflect.Value) {
		lists++
		if seen[list.Pointer()] {
			t.Error("memory is shared", list)
		}
		seen[list.Pointer()] = true
	})
	if lists < 80 {
		t.Error("few lists", lists)
	}
	eachList(arguments, func(list reflect.Value) {
		if !reflect.DeepEqual(before[0], withSpare(list)) {
			t.Error("an argument is changed", before[0], list)
		}
		before = before[1:]
	})
}
