package code

import (
	"reflect"
	"testing"

	"canvass/api"
)

// eachList calls do with each list that can be reached and has memory.
func eachList(v reflect.Value, do func(list reflect.Value)) {
	switch v.Kind() {
	case reflect.Interface, reflect.Pointer:
		eachList(v.Elem(), do)
	case reflect.Struct:
		for i := range v.NumField() {
			eachList(v.Field(i), do)
		}
	case reflect.Slice:
		if v.Cap() == 0 {
			return
		}
		do(v)
		for i := range v.Len() {
			eachList(v.Index(i), do)
		}
	}
}

// widen gives a list spare capacity, which has copies of its first element.
func widen(list reflect.Value) {
	if n := list.Len(); n > 0 {
		list.Set(reflect.Append(reflect.AppendSlice(reflect.MakeSlice(list.Type(), 0, n+2), list), list.Index(0), list.Index(0)).Slice(0, n))
	}
}

// withSpare returns a copy of a list with its spare capacity.
func withSpare(list reflect.Value) any {
	all := list.Slice(0, list.Cap())
	return reflect.AppendSlice(reflect.MakeSlice(list.Type(), 0, all.Len()), all).Interface()
}

// lent is arguments of all functions.
type lent struct {
	Nodes, Next []api.Node
	Coder       api.Coder
	Codings     []api.Coding
	Moves       []api.Move
}

func lend(t *testing.T) *lent {
	t.Helper()
	c := learned(t, flat(9), "5 dogs, 5 big dog, 3 the dog cat, 7 cat, 7 cat mouse, 1 mouse")
	c.Stops, c.Endings = []string{"a", "the"}, []api.Ending{{From: "s"}, {From: "x", To: "y"}}
	c.Rules = []api.CodeRule{{With: []string{"big", "horse"}, Without: []string{"cat", "dog"}, Code: 2}, {With: []string{"tree"}, Without: []string{"big"}, Code: 9}}
	return &lent{
		Nodes: nodesIn(t, beings), Next: nodesIn(t, "5 plants\n20 dogs\n21 others\n"), Coder: c,
		Codings: codingsIn(t, "1 1 21, 1 2 25, 2 1 20, 2 2 20, 2 3 5, 3 1 6, 4 1 30, 4 2 6"), Moves: []api.Move{{From: 6, To: 5}, {From: 21, To: 21}, {From: 25, To: 0}},
	}
}

func resultsOf(t *testing.T, g *lent) []any {
	t.Helper()
	var out []any
	add := func(result any, fault api.Fault) {
		t.Helper()
		if fault != api.OK {
			t.Fatal("a function fails", result, fault)
		}
		out = append(out, result)
	}
	add(nil, CheckFrame(g.Nodes))
	text, fault := Text(g.Nodes)
	add(text, fault)
	nodes, line, fault := Read(text)
	add([]any{nodes, line}, fault)
	for _, n := range g.Nodes {
		above, fault := Above(g.Nodes, n.Code)
		add(above, fault)
		within, fault := Within(g.Nodes, n.Code)
		add(within, fault)
		code, distance, fault := Meeting(g.Nodes, n.Code, 21)
		add([]any{code, distance}, fault)
	}
	add(nil, CheckCoder(g.Coder))
	for _, text := range []string{"The dogs and a cat", "big horse", "tree", "mouse"} {
		words, fault := Words(g.Coder, text)
		add(words, fault)
		proposals, fault := Propose(g.Coder, text)
		add(proposals, fault)
		code, ok, fault := Automatic(g.Coder, text, parts("1/2"), parts("0/1"))
		add([]any{code, ok}, fault)
	}
	right, wrong, open, fault := Quality(g.Coder, parts("1/3"), parts("0/1"))
	add([]any{right, wrong, open}, fault)
	add(nil, CheckCodings(g.Nodes, g.Codings))
	finals, fault := Finals(g.Nodes, g.Codings)
	add(finals, fault)
	confusions, fault := Confusions(g.Nodes, g.Codings, 1, 2)
	add(confusions, fault)
	kappa, fault := Kappa(g.Nodes, g.Codings, 1, 2)
	add(kappa, fault)
	alpha, fault := Alpha(g.Nodes, g.Codings, true)
	add(alpha, fault)
	for level := 1; level <= 3; level++ {
		lifted, fault := Lift(g.Nodes, g.Codings, level)
		add(lifted, fault)
	}
	carried, left, fault := Recode(g.Nodes, g.Next, g.Moves, g.Codings)
	add([]any{carried, left}, fault)
	carried, left, fault = Recode(g.Nodes, g.Nodes, nil, g.Codings)
	add([]any{carried, left}, fault)
	return out
}

// TestMemory holds that no function changes what it is given, or the memory behind it, and that no two lists of results share memory (G2); and that the same calls have the same results (G4).
func TestMemory(t *testing.T) {
	g := lend(t)
	arguments := reflect.ValueOf(g)
	var before []any
	seen := map[uintptr]bool{}
	eachList(arguments, widen)
	eachList(arguments, func(list reflect.Value) {
		seen[list.Pointer()] = true
		before = append(before, withSpare(list))
	})
	first, second := resultsOf(t, g), resultsOf(t, g)
	if !reflect.DeepEqual(first, second) {
		t.Error("results differ from call to call", first, second)
	}
	eachList(reflect.ValueOf(append(first, second...)), func(list reflect.Value) {
		if seen[list.Pointer()] {
			t.Error("memory is shared", list)
		}
		seen[list.Pointer()] = true
	})
	eachList(arguments, func(list reflect.Value) {
		if !reflect.DeepEqual(before[0], withSpare(list)) {
			t.Error("an argument is changed", before[0], list)
		}
		before = before[1:]
	})
}
