package value

import (
	"slices"
	"testing"

	"canvass/api"
)

func TestSight(t *testing.T) {
	cells, loops := house()
	s, fault := SightOf(cells, loops)
	if fault != api.OK {
		t.Fatal("SightOf", fault)
	}
	e := parsed(t, "sum(members: extra)")
	if kind, fault := s.TypeOf(e, nil); kind != 0 || fault != api.ErrName {
		t.Error("TypeOf of a cell that there is not yet", kind, fault)
	}
	around := []string{"homes", "members"}
	for _, x := range []struct {
		cell api.Cell
		want api.Fault
	}{
		{api.Cell{Name: "Extra", Kind: 9}, api.ErrName}, {api.Cell{Name: cells[0].Name, Kind: 9}, api.ErrTwice}, {api.Cell{Name: "extra", Kind: api.Special, Loops: around[1:]}, api.ErrKind},
		{api.Cell{Name: "extra", Kind: api.Number, Loops: around[1:]}, api.ErrNone}, {api.Cell{Name: "extra", Kind: api.Number, Loops: around}, api.OK}, {api.Cell{Name: "extra", Kind: api.Number}, api.ErrTwice},
	} {
		if fault := s.Add(x.cell); fault != x.want {
			t.Error("Add", x.cell, fault)
		}
	}
	loops[0].Name, cells[0].Name, around[0] = "changed", "changed", "changed"
	if kind, fault := s.TypeOf(e, []string{"homes"}); kind != api.Number || fault != api.OK {
		t.Error("TypeOf keeps what it was given", kind, fault)
	}
	for _, x := range []struct {
		e    api.Expr
		at   []string
		want api.Fault
	}{
		{api.Expr{}, []string{"x"}, api.ErrKind}, {e, []string{"x"}, api.ErrNone}, {parsed(t, "not extra"), []string{"homes", "members"}, api.ErrType},
	} {
		if kind, fault := s.TypeOf(x.e, x.at); kind != 0 || fault != x.want {
			t.Error("TypeOf", x.e, fault)
		}
	}
	cells, loops = house()
	cells[0].Kind = api.Missing
	if s, fault := SightOf(cells, loops); s.cells != nil || s.loops != nil || fault != api.ErrKind {
		t.Error("SightOf of a wrong cell", fault)
	}
}

func TestView(t *testing.T) {
	s := houseScene()
	v, fault := ViewOf(s)
	if fault != api.OK {
		t.Fatal("ViewOf", fault)
	}
	for _, x := range []struct {
		text string
		at   []string
		row  []int
	}{
		{"rooms", []string{"homes"}, []int{1}}, {"sum(members: age)", []string{"homes"}, []int{1}}, {"sum(homes: sum(members: age))", nil, nil}, {"rooms > 1000", []string{"homes"}, []int{2}},
		{"nothing", nil, nil}, {"rooms", nil, nil}, {"not 1", nil, nil}, {"1", []string{"x"}, nil}, {"1", []string{"homes"}, nil}, {"1", []string{"homes"}, []int{0}}, {"1", nil, []int{1}},
	} {
		e := parsed(t, x.text)
		want, wanted := Eval(e, s, x.at, x.row)
		if got, fault := v.Eval(e, x.at, x.row); !equal(got, want) || fault != wanted {
			t.Error("Eval of a view", x, got, fault)
		}
	}
	if _, fault := v.Eval(api.Expr{}, []string{"x"}, nil); fault != api.ErrKind {
		t.Error("Eval of no expression", fault)
	}
	e := parsed(t, "sum(homes: sum(members: age))")
	want, _ := v.Eval(e, nil, nil)
	for i := range s.Bounds {
		s.Bounds[i].Value, s.Bounds[i].Name = api.Value{}, "x"
	}
	for i := range s.Rows {
		clear(s.Rows[i].Numbers)
		clear(s.Rows[i].Row)
	}
	if got, fault := v.Eval(e, nil, nil); !equal(got, want) || fault != api.OK {
		t.Error("a view keeps what it was given", got, fault)
	}
	if v, fault := ViewOf(s); fault != api.ErrName || v.source != nil || v.cells != nil {
		t.Error("ViewOf of a wrong scene", fault)
	}
	set := api.Scene{Cells: []api.Cell{{Name: "s", Kind: api.Choices}}, Bounds: []api.Bound{{Name: "s", Value: choices(1, 2), Asked: true}}}
	v, _ = ViewOf(set)
	for range 2 {
		got, _ := v.Eval(cell("s"), nil, nil)
		if !slices.Equal(got.Set, []int{1, 2}) {
			t.Error("a view gives out its own memory", got)
		}
		got.Set[0] = 9
	}
}
