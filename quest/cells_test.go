package quest

import (
	"reflect"
	"slices"
	"testing"

	"canvass/api"
	"canvass/fresh"
	"canvass/value"
)

// houseCells are the cells of the form with houseText.
func houseCells() []api.Cell {
	kids := []string{"kids"}
	return []api.Cell{
		{Name: "got", Kind: api.Choice}, {Name: "many", Kind: api.Number}, {Name: "likes", Kind: api.Choices}, {Name: "born", Kind: api.Day}, {Name: "nick", Kind: api.Text}, {Name: "five", Kind: api.Number},
		{Name: "age", Kind: api.Number, Loops: kids}, {Name: "price", Kind: api.Number, Loops: []string{"kids", "toys"}}, {Name: "total", Kind: api.Number},
	}
}

func houseLoops() []api.Nest {
	return []api.Nest{{Name: "kids"}, {Name: "toys", Loops: []string{"kids"}}}
}

func TestCells(t *testing.T) {
	f := formOf(t, houseText)
	cells, loops, fault := Cells(f)
	if fault != api.OK || !reflect.DeepEqual(cells, houseCells()) || !reflect.DeepEqual(loops, houseLoops()) {
		t.Error("Cells", cells, loops, fault)
	}
	s, fault := Blank(f)
	if want := (api.Scene{Cells: houseCells(), Loops: houseLoops()}); fault != api.OK || !reflect.DeepEqual(s, want) || value.CheckScene(s) != api.OK {
		t.Error("Blank", s, fault)
	}
	// Kinds of computed values.
	itemOf(&f, "five").Compute = exprsOf("likes")
	itemOf(&f, "total").Compute = exprsOf("if(five has #1, later(born, 1), born)")
	itemOf(&f, "bye").If = nil
	if cells, _, fault := Cells(f); fault != api.OK || cells[5].Kind != api.Choices || cells[8].Kind != api.Day {
		t.Error("Cells of computed values", cells, fault)
	}
	f.Name = ""
	if cells, loops, fault := Cells(f); len(cells) > 0 || len(loops) > 0 || fault != api.ErrName {
		t.Error("Cells of a wrong form", cells, loops, fault)
	}
	if s, fault := Blank(f); !reflect.DeepEqual(s, api.Scene{}) || fault != api.ErrName {
		t.Error("Blank of a wrong form", s, fault)
	}
}

func TestFind(t *testing.T) {
	f := formOf(t, houseText)
	for name, want := range map[string][]string{"start": nil, "got": nil, "second": nil, "kids": nil, "kid": {"kids"}, "age": {"kids"}, "toys": {"kids"}, "toy": {"kids", "toys"}, "price": {"kids", "toys"}, "total": nil, "bye": nil} {
		item, loops, fault := Find(f, name)
		if fault != api.OK || !slices.Equal(loops, want) || !sameItem(item, *itemOf(&f, name)) {
			t.Error("Find", name, item, loops, fault)
		}
	}
	for _, name := range []string{"", "nobody", "colours", "house", "option", "Got"} {
		if item, loops, fault := Find(f, name); fault != api.ErrName || len(loops) > 0 || !reflect.DeepEqual(item, api.Item{}) {
			t.Error("Find", name, item, loops, fault)
		}
	}
	f.Languages = nil
	if item, loops, fault := Find(f, "nobody"); fault != api.ErrLarge || len(loops) > 0 || !reflect.DeepEqual(item, api.Item{}) {
		t.Error("Find in a wrong form", item, loops, fault)
	}
}

// fullForm has something in every field; Check does not accept it.
func fullForm() api.Form {
	e := func(name string) []api.Expr {
		return []api.Expr{{Kind: 1, Op: 2, Name: name, Value: api.Value{Kind: 3, N: 4, S: "s", Set: []int{5}}, Args: []api.Expr{{Kind: 2, Name: "inner"}}}}
	}
	item := func(name string) api.Item {
		return api.Item{Kind: 4, Name: name, If: e("if"), Phrase: api.Phrase{"a", "b"}, Shuffle: true, Count: e("count"), Over: "over", Compute: e("compute"), Answer: api.Answer{
			Kind: 5, Low: 1, High: 2, Places: 3, List: "l", Only: e("only"), Shuffle: true, Reasons: []int{1, 2}, Need: true, Checks: []api.Rule{{Must: e("must")[0], Soft: true, Phrase: api.Phrase{"c"}}},
		}}
	}
	outer := item("outer")
	outer.Items = []api.Item{item("within")}
	return api.Form{Name: "f", Version: -1, Languages: []string{"x", "y"}, Lists: []api.List{{Name: "l", Options: []api.Option{{Code: 1, Phrase: api.Phrase{"p"}, Alone: true, Last: true}}}}, Items: []api.Item{outer, item("other")}}
}

// changes calls do for each change of one field, or of one element or the length of one list, within what v is.
func changes(v reflect.Value, do func()) {
	switch v.Kind() {
	case reflect.Int:
		v.SetInt(v.Int() + 1)
		do()
		v.SetInt(v.Int() - 1)
	case reflect.Bool:
		v.SetBool(!v.Bool())
		do()
		v.SetBool(!v.Bool())
	case reflect.String:
		old := v.String()
		v.SetString(old + "x")
		do()
		v.SetString(old)
	case reflect.Struct:
		for i := range v.NumField() {
			changes(v.Field(i), do)
		}
	case reflect.Slice:
		for i := range v.Len() {
			changes(v.Index(i), do)
		}
		if n := v.Len(); n > 0 {
			old := v.Slice(0, n)
			v.SetLen(n - 1)
			do()
			v.Set(reflect.Append(old, old.Index(n-1)))
			do()
			v.Set(old)
		}
	}
}

func TestEqual(t *testing.T) {
	f, g := fullForm(), fullForm()
	if !Equal(f, g) || !Equal(api.Form{}, api.Form{}) || Equal(f, api.Form{}) {
		t.Error("Equal of equal forms")
	}
	n := 0
	changes(reflect.ValueOf(&g).Elem(), func() {
		n++
		if Equal(f, g) || Equal(g, f) {
			t.Fatal("Equal does not see a change", n, g)
		}
	})
	if n < 200 || !Equal(f, g) {
		t.Error("changes", n)
	}
	empty := api.Form{Languages: []string{}, Lists: []api.List{}, Items: []api.Item{{If: []api.Expr{}, Phrase: api.Phrase{}, Items: []api.Item{}, Count: []api.Expr{}, Compute: []api.Expr{{Args: []api.Expr{}, Value: api.Value{Set: []int{}}}}, Answer: api.Answer{Only: []api.Expr{}, Reasons: []int{}, Checks: []api.Rule{}}}}}
	if zero := (api.Form{Items: []api.Item{{Compute: []api.Expr{{}}}}}); !Equal(empty, zero) || !Equal(zero, empty) {
		t.Error("empty lists are those that are nil")
	}
	f.Lists = []api.List{{Name: "a"}, {Name: "b"}}
	g = fresh.Form(f)
	slices.Reverse(g.Lists)
	if Equal(f, g) {
		t.Error("Equal of lists in another order")
	}
}
