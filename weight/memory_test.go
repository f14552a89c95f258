package weight

import (
	"reflect"
	"testing"

	"canvass/api"
)

// eachList calls do with each list that can be reached and has memory.
func eachList(v reflect.Value, do func(list reflect.Value)) {
	switch v.Kind() {
	case reflect.Interface, reflect.Pointer:
		eachList(v.Elem(), do)
	case reflect.Struct:
		for i := range v.NumField() {
			eachList(v.Field(i), do)
		}
	case reflect.Slice:
		if v.Cap() == 0 {
			return
		}
		do(v)
		for i := range v.Len() {
			eachList(v.Index(i), do)
		}
	}
}

// widen gives a list spare capacity, which has copies of its first element.
func widen(list reflect.Value) {
	if n := list.Len(); n > 0 {
		list.Set(reflect.Append(reflect.AppendSlice(reflect.MakeSlice(list.Type(), 0, n+2), list), list.Index(0), list.Index(0)).Slice(0, n))
	}
}

// withSpare returns a copy of a list with its spare capacity.
func withSpare(list reflect.Value) any {
	all := list.Slice(0, list.Cap())
	return reflect.AppendSlice(reflect.MakeSlice(list.Type(), 0, all.Len()), all).Interface()
}

// lent is arguments of all functions.
type lent struct {
	Picks    []api.Pick
	Margins  []api.Margin
	People   []api.Person
	Answered []bool
	Values   []int
}

func lend(t *testing.T) *lent {
	t.Helper()
	return &lent{
		Picks: picksOf("1/2", "2/3", "1"), Margins: marginsIn(t, "m 6 3, n 5 4, o 9"), Answered: answers("ynyy"), Values: []int{3, 1, -4, 1},
		People: peopleIn(t, "1 0.1.0 0 2 1, 2/3 1.0.0 0 2 2, 7 0.0.0 1 1 1, 1 1.1.0 0 2 5"),
	}
}

func resultsOf(t *testing.T, g *lent) []any {
	t.Helper()
	var out []any
	add := func(result any, fault api.Fault) {
		t.Helper()
		if fault != api.OK {
			t.Fatal("a function fails", result, fault)
		}
		out = append(out, result)
	}
	add(nil, CheckMargins(g.Margins))
	add(nil, CheckPeople(g.Margins, g.People))
	bases, fault := Bases(g.Picks)
	add(bases, fault)
	sums, fault := Sums(g.Margins, g.People)
	add(sums, fault)
	list, fault := Respond(g.People, g.Answered)
	add(list, fault)
	for margin := range g.Margins {
		list, fault := Post(g.Margins, g.People, margin)
		add(list, fault)
	}
	for rounds := range 4 {
		raked, fault := Rake(g.Margins, g.People, api.Raking{Places: 3, Rounds: rounds, Distance: parts("0")})
		add(raked, fault)
	}
	for _, most := range []string{"1", "3/2", "9"} {
		list, count, fault := Trim(g.People, parts(most))
		add([]any{list, count}, fault)
	}
	spread, fault := SpreadOf(g.People)
	add(spread, fault)
	replicates, fault := Replicates(g.People)
	add(replicates, fault)
	for _, f := range four {
		r, fault := f.call(g.People, g.Values)
		add(r, fault)
	}
	return out
}

// TestMemory holds that no function changes what it is given, or the memory behind it, and that no two lists of results share memory (G2); and that the same calls have the same results (G4).
func TestMemory(t *testing.T) {
	g := lend(t)
	arguments := reflect.ValueOf(g)
	var before []any
	seen := map[uintptr]bool{}
	eachList(arguments, widen)
	eachList(arguments, func(list reflect.Value) {
		seen[list.Pointer()] = true
		before = append(before, withSpare(list))
	})
	first, second := resultsOf(t, g), resultsOf(t, g)
	if !reflect.DeepEqual(first, second) {
		t.Error("results differ from call to call", first, second)
	}
	eachList(reflect.ValueOf(append(first, second...)), func(list reflect.Value) {
		if seen[list.Pointer()] {
			t.Error("memory is shared", list)
		}
		seen[list.Pointer()] = true
	})
	eachList(arguments, func(list reflect.Value) {
		if !reflect.DeepEqual(before[0], withSpare(list)) {
			t.Error("an argument is changed", before[0], list)
		}
		before = before[1:]
	})
}
