package quest

import (
	"reflect"
	"runtime"
	"testing"

	"canvass/api"
	"canvass/fresh"
)

// lists calls do with each list that can be reached.
func lists(v reflect.Value, do func(list reflect.Value)) {
	switch v.Kind() {
	case reflect.Struct:
		for i := range v.NumField() {
			lists(v.Field(i), do)
		}
	case reflect.Slice:
		do(v)
		for i := range v.Len() {
			lists(v.Index(i), do)
		}
	}
}

// widen gives each list spare capacity, which begins with a copy of its first element.
func widen(v reflect.Value) {
	lists(v, func(list reflect.Value) {
		if n := list.Len(); n > 0 {
			wide := reflect.AppendSlice(reflect.MakeSlice(list.Type(), 0, n+3), list)
			list.Set(reflect.Append(wide, list.Index(0)).Slice(0, n))
		}
	})
}

// full returns a copy of a list with its spare capacity, as it is.
func full(list reflect.Value) any {
	all := list.Slice(0, list.Cap())
	return reflect.AppendSlice(reflect.MakeSlice(list.Type(), 0, list.Cap()), all).Interface()
}

// TestMemory holds that no function changes or keeps what it is given, and that no two lists of results share memory (G2).
func TestMemory(t *testing.T) {
	f := formOf(t, houseText)
	s := sceneOf(t, f, bound("likes", choicesValue(1, 3)), bound("many", numberValue(20000)))
	l, _ := Entries(f, 0)
	other := fresh.Form(f)
	row, offered := []int{2}, []int{3, 5}
	v := choicesValue(3, 5)
	given := []any{&f, &s, &l, &other, &row, &offered, &v}
	seen := map[uintptr]bool{}
	before := []any{}
	eachGiven := func(do func(list reflect.Value)) {
		for _, g := range given {
			lists(reflect.ValueOf(g).Elem(), do)
		}
	}
	for _, g := range given {
		widen(reflect.ValueOf(g).Elem())
	}
	eachGiven(func(list reflect.Value) {
		before = append(before, full(list))
		if list.Cap() > 0 {
			seen[list.Pointer()] = true
		}
	})
	var kept []any // so that no memory is used again
	hold := func(results ...any) {
		t.Helper()
		kept = append(kept, results...)
		if results[len(results)-1] != api.OK {
			t.Error("a function fails", results[len(results)-1])
		}
		for _, result := range results {
			lists(reflect.ValueOf(result), func(list reflect.Value) {
				if list.Cap() > 0 && seen[list.Pointer()] {
					t.Fatal("memory is shared", result)
				}
				if list.Cap() > 0 {
					seen[list.Pointer()] = true
				}
			})
		}
	}
	for range 2 {
		hold(Check(f))
		text, fault := Text(f)
		hold(text, fault)
		cells, loops, fault := Cells(f)
		hold(cells, loops, fault)
		for _, name := range []string{"price", "many", "likes", "kids", "bye", "total"} {
			item, loops, fault := Find(f, name)
			hold(item, loops, fault)
			names, fault := Ahead(f, name)
			hold(names, fault)
		}
		blank, fault := Blank(f)
		hold(blank, fault)
		order, fault := Arranged(f, "s", "mixed", nil)
		hold(order, fault)
		codes, fault := Options(f, "s", "likes", nil, s)
		hold(codes, fault)
		spoken, fault := Spoken(f, "age", 0, s, row)
		hold(spoken, fault)
		hold(Accept(f, "likes", v, offered))
		entries, fault := Entries(f, 1)
		hold(entries, fault)
		for _, language := range []string{"en", "fr"} {
			g, fault := Translated(f, language, l)
			hold(g, fault)
		}
		d, fault := Differences(f, other)
		hold(d, fault)
		if !Equal(f, other) {
			t.Error("Equal")
		}
		read, _, fault := Read(houseText)
		hold(read, fault)
	}
	runtime.KeepAlive(kept)
	n := 0
	eachGiven(func(list reflect.Value) {
		if !reflect.DeepEqual(full(list), before[n]) {
			t.Error("an argument is changed", full(list), before[n])
		}
		n++
	})
}
