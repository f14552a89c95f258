package proof

import (
	"reflect"
	"runtime"
	"testing"

	"canvass/api"
	"canvass/fresh"
)

// eachList calls do with each list that can be reached and has memory.
func eachList(v reflect.Value, do func(list reflect.Value)) {
	switch v.Kind() {
	case reflect.Struct:
		for i := range v.NumField() {
			eachList(v.Field(i), do)
		}
	case reflect.Slice:
		if v.Cap() == 0 {
			return
		}
		do(v)
		for i := range v.Len() {
			eachList(v.Index(i), do)
		}
	}
}

// widen gives a list spare capacity, which has copies of its first element.
func widen(list reflect.Value) {
	if n := list.Len(); n > 0 {
		list.Set(reflect.Append(reflect.AppendSlice(reflect.MakeSlice(list.Type(), 0, n+2), list), list.Index(0), list.Index(0)).Slice(0, n))
	}
}

// TestMemory holds that no function changes what it is given, or the memory behind it, and that no two lists of results share memory (G2); and that the same call has the same result (G4).
func TestMemory(t *testing.T) {
	f := pagesOf(t, dependsForMemory)
	other := fresh.Form(f)
	itemOf(other.Items, "last").If = []api.Expr{exprOf(t, "s has #7")}
	l := []api.Given{given("s", choicesValue(5, 7)), given("n", numberValue(30000))}
	arguments := []reflect.Value{reflect.ValueOf(&f).Elem(), reflect.ValueOf(&other).Elem(), reflect.ValueOf(&l).Elem()}
	var before []any
	seen := map[uintptr]bool{}
	for _, argument := range arguments {
		eachList(argument, widen)
		eachList(argument, func(list reflect.Value) {
			seen[list.Pointer()] = true
			all := list.Slice(0, list.Cap())
			before = append(before, reflect.AppendSlice(reflect.MakeSlice(list.Type(), 0, all.Len()), all).Interface())
		})
	}
	call := func() []any {
		var results []any
		hold := func(result any, fault api.Fault) {
			t.Helper()
			if fault != api.OK {
				t.Error("a function fails", fault)
			}
			results = append(results, result)
		}
		hold(nil, Plain(f))
		for _, name := range []string{"p", "s", "n", "last", "e"} {
			names, fault := Depends(f, name)
			hold(names, fault)
			n, fault := Mix(f, name)
			hold(n, fault)
			answers, fault := Reach(f, name)
			hold(answers, fault)
		}
		names, fault := Reached(f, l)
		hold(names, fault)
		possible, fault := Possible(f, l)
		hold(possible, fault)
		names, fault = Dead(f)
		hold(names, fault)
		names, fault = Stuck(f)
		hold(names, fault)
		facts, fault := Constant(f)
		hold(facts, fault)
		lists, fault := Cover(f)
		hold(lists, fault)
		_, answers, fault := Same(f, other)
		hold(answers, fault)
		return results
	}
	first, second := call(), call()
	if !reflect.DeepEqual(first, second) {
		t.Error("results differ from call to call", first, second)
	}
	for _, result := range append(first, second...) {
		eachList(reflect.ValueOf(result), func(list reflect.Value) {
			if seen[list.Pointer()] {
				t.Error("memory is shared", result)
			}
			seen[list.Pointer()] = true
		})
	}
	runtime.KeepAlive(first)
	n := 0
	for _, argument := range arguments {
		eachList(argument, func(list reflect.Value) {
			if !reflect.DeepEqual(list.Slice(0, list.Cap()).Interface(), before[n]) {
				t.Error("an argument is changed", before[n])
			}
			n++
		})
	}
}

const dependsForMemory = `page p
  question s choices mix 0 3 reasons dontknow
  question n number 0 9 places 1
    if s has #5
  question last choices mix 1 2 need
    if size(s) = 2 and n < 9
  compute k = n = 3
  question d choices mix 2 2 need
    if not k
end e
  if asked(last)
page q
  if false
`
