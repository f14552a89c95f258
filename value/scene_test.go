package value

import (
	"slices"
	"testing"

	"canvass/api"
)

// houseScene has two homes, with the numbers 1 and 3; the first one has the members 2 and 5, the other one has none, and a pet.
func houseScene() api.Scene {
	cells, loops := house()
	cells = append(cells, api.Cell{Name: "old", Kind: api.Bool, Loops: []string{"homes", "members"}}, api.Cell{Name: "rent", Kind: api.Number})
	return api.Scene{
		Cells: cells,
		Loops: loops,
		Bounds: []api.Bound{
			{Name: "age", Row: []int{1, 2}, Value: number(30 * unit), Asked: true},
			{Name: "age", Row: []int{1, 5}, Value: special(api.Refused), Asked: true},
			{Name: "age", Row: []int{3, 1}, Value: number(8 * unit), Asked: false},
			{Name: "legs", Row: []int{3, 7}, Value: number(4 * unit), Asked: true},
			{Name: "old", Row: []int{1, 2}, Value: boolean(true), Asked: true},
			{Name: "rooms", Row: []int{1}, Value: number(2 * unit), Asked: true},
			{Name: "rooms", Row: []int{3}, Value: number(25000), Asked: true},
			{Name: "town", Value: text("Ulm"), Asked: true},
		},
		Rows: []api.Rows{
			{Loop: "cars"},
			{Loop: "homes", Numbers: []int{1, 3}},
			{Loop: "members", Row: []int{1}, Numbers: []int{2, 5}},
			{Loop: "members", Row: []int{3}, Numbers: []int{}},
			{Loop: "pets", Row: []int{3}, Numbers: []int{7}},
		},
	}
}

// changed returns the scene of houses after a change.
func changed(change func(s *api.Scene)) api.Scene {
	s := houseScene()
	change(&s)
	return s
}

func TestCheckScene(t *testing.T) {
	if fault := CheckScene(api.Scene{}); fault != api.OK {
		t.Error("CheckScene of nothing", fault)
	}
	if fault := CheckScene(houseScene()); fault != api.OK {
		t.Error("CheckScene of houses", fault)
	}
	bound := func(i int, b api.Bound) func(s *api.Scene) { return func(s *api.Scene) { s.Bounds[i] = b } }
	rows := func(i int, r api.Rows) func(s *api.Scene) { return func(s *api.Scene) { s.Rows[i] = r } }
	row := func(n ...int) []int { return n }
	for i, x := range []struct {
		change func(s *api.Scene)
		want   api.Fault
	}{
		{func(s *api.Scene) { s.Cells[1].Kind = 1 }, api.ErrKind}, {func(s *api.Scene) { s.Cells[0].Name = "rooms" }, api.ErrTwice}, {func(s *api.Scene) { s.Loops[2].Name = "Pets" }, api.ErrName}, {func(s *api.Scene) { s.Loops[0], s.Loops[1] = s.Loops[1], s.Loops[0] }, api.ErrOrder}, {func(s *api.Scene) { s.Cells[0].Loops = []string{"pets"} }, api.ErrNone},
		{bound(7, api.Bound{Name: "tower"}), api.ErrName}, {bound(7, api.Bound{Name: "homes"}), api.ErrName}, {bound(7, api.Bound{}), api.ErrName},
		{bound(7, api.Bound{Name: "town", Row: row(1)}), api.ErrForm}, {bound(5, api.Bound{Name: "rooms"}), api.ErrForm}, {bound(5, api.Bound{Name: "rooms", Row: row(1, 2)}), api.ErrForm}, {bound(0, api.Bound{Name: "age", Row: row(1)}), api.ErrForm},
		{bound(0, api.Bound{Name: "age", Row: row(0, 2)}), api.ErrRange}, {bound(0, api.Bound{Name: "age", Row: row(1, 1000)}), api.ErrRange}, {bound(0, api.Bound{Name: "age", Row: row(999, -1)}), api.ErrRange}, {bound(0, api.Bound{Name: "age", Row: row(0)}), api.ErrForm},
		{bound(7, api.Bound{Name: "town", Value: text("\n")}), api.ErrRange}, {bound(7, api.Bound{Name: "town", Value: api.Value{Kind: 8}}), api.ErrKind}, {bound(7, api.Bound{Name: "town", Value: api.Value{N: 1}}), api.ErrForm}, {bound(7, api.Bound{Name: "town", Value: number(api.MaxNumber + 1)}), api.ErrRange},
		{bound(7, api.Bound{Name: "town", Value: number(1)}), api.ErrType}, {bound(7, api.Bound{Name: "town", Value: boolean(true)}), api.ErrType}, {bound(7, api.Bound{Name: "town", Value: special(3)}), api.OK}, {bound(7, api.Bound{Name: "town"}), api.OK}, {bound(7, api.Bound{Name: "town", Asked: true}), api.OK}, {bound(4, api.Bound{Name: "old", Row: row(1, 2), Value: number(1)}), api.ErrType},
		{bound(7, api.Bound{Name: "rooms", Row: row(3)}), api.ErrTwice}, {bound(7, api.Bound{Name: "rooms", Row: row(2)}), api.ErrOrder}, {bound(7, api.Bound{Name: "rent"}), api.ErrOrder}, {bound(1, api.Bound{Name: "age", Row: row(1, 2)}), api.ErrTwice}, {bound(1, api.Bound{Name: "age", Row: row(1, 1)}), api.ErrOrder}, {bound(2, api.Bound{Name: "age", Row: row(1, 4)}), api.ErrOrder}, {bound(2, api.Bound{Name: "age", Row: row(2, 1)}), api.OK}, {bound(7, api.Bound{Name: "rent", Value: text("x")}), api.ErrType},
		{rows(1, api.Rows{Loop: "houses"}), api.ErrName}, {rows(1, api.Rows{Loop: "town"}), api.ErrName},
		{rows(1, api.Rows{Loop: "homes", Row: row(1)}), api.ErrForm}, {rows(2, api.Rows{Loop: "members"}), api.ErrForm}, {rows(2, api.Rows{Loop: "members", Row: row(1, 1)}), api.ErrForm},
		{rows(2, api.Rows{Loop: "members", Row: row(0)}), api.ErrRange}, {rows(2, api.Rows{Loop: "members", Row: row(1000)}), api.ErrRange},
		{rows(1, api.Rows{Loop: "homes", Numbers: row(0)}), api.ErrRange}, {rows(1, api.Rows{Loop: "homes", Numbers: row(1000)}), api.ErrRange}, {rows(1, api.Rows{Loop: "homes", Numbers: row(1, 1)}), api.ErrOrder}, {rows(1, api.Rows{Loop: "homes", Numbers: row(2, 1)}), api.ErrOrder}, {rows(1, api.Rows{Loop: "homes", Numbers: row(2, 1, 0)}), api.ErrOrder}, {rows(1, api.Rows{Loop: "homes", Numbers: row(2, 0, 1)}), api.ErrRange}, {rows(1, api.Rows{Loop: "homes", Numbers: row(1, 999)}), api.OK}, {rows(1, api.Rows{Loop: "homes"}), api.OK},
		{rows(3, api.Rows{Loop: "members", Row: row(1)}), api.ErrTwice}, {rows(2, api.Rows{Loop: "members", Row: row(4)}), api.ErrOrder}, {rows(4, api.Rows{Loop: "homes"}), api.ErrOrder}, {rows(4, api.Rows{Loop: "homes", Numbers: row(0)}), api.ErrRange}, {rows(0, api.Rows{Loop: "homes"}), api.ErrTwice},
		// Bounds ahead of Rows, and each one for all its errors.
		{func(s *api.Scene) { s.Rows[0].Loop = "x"; s.Bounds[7].Value = number(1) }, api.ErrType}, {func(s *api.Scene) { s.Bounds[0].Row = row(1, 9); s.Bounds[1].Name = "x" }, api.ErrName}, {func(s *api.Scene) { s.Bounds[0].Row = row(1, 9); s.Bounds[2].Name = "x" }, api.ErrOrder}, {func(s *api.Scene) { s.Cells[0].Kind = 0; s.Bounds[0].Name = "x" }, api.ErrKind},
	} {
		s := changed(x.change)
		if got := CheckScene(s); got != x.want {
			t.Errorf("CheckScene of case %d is %d, not %d", i, got, x.want)
		}
		if v, fault := Eval(ones(1), s, nil, nil); fault != x.want || (fault != api.OK) != equal(v, api.Value{}) {
			t.Errorf("Eval of case %d is %v, %d, not %d", i, v, fault, x.want)
		}
	}
}

func TestLargeScene(t *testing.T) {
	loops := []api.Nest{{Name: "l"}, {Name: "m", Loops: []string{"l"}}, {Name: "n", Loops: []string{"l", "m"}}}
	s := api.Scene{Cells: []api.Cell{{Name: "a", Kind: api.Number, Loops: []string{"l", "m"}}}, Loops: loops}
	for i := range api.MaxBounds {
		row := []int{1 + i/900, 1 + i%900}
		s.Bounds = append(s.Bounds, api.Bound{Name: "a", Row: row, Value: number(unit), Asked: true})
		s.Rows = append(s.Rows, api.Rows{Loop: "n", Row: row, Numbers: []int{1}})
	}
	if fault := CheckScene(s); fault != api.OK {
		t.Error("CheckScene of a full scene", fault)
	}
	s.Rows = append(s.Rows, api.Rows{Loop: "x"})
	if fault := CheckScene(s); fault != api.ErrLarge {
		t.Error("CheckScene of too many Rows", fault)
	}
	s.Rows, s.Bounds = nil, append(s.Bounds, api.Bound{Name: "x"})
	if fault := CheckScene(s); fault != api.ErrLarge {
		t.Error("CheckScene of too many Bounds", fault)
	}
	s.Loops = loops[1:]
	if fault := CheckScene(s); fault != api.ErrOrder {
		t.Error("CheckScene of cells and loops comes first", fault)
	}
}

// TestArgumentsStay holds all that is given to Eval against what it was, with the spare capacity of its lists.
func TestArgumentsStay(t *testing.T) {
	spare := func(l []string) []string { return append(slices.Grow(l, 4), "x", "y")[:len(l)] }
	s := houseScene()
	for i := range s.Loops {
		s.Loops[i].Loops = spare(s.Loops[i].Loops)
	}
	row := append(make([]int, 0, 4), 1, 2, 77, 78)[:2]
	at := spare([]string{"homes", "members"})
	const sums = "sum(members: age + sum(pets: legs) + rooms + row(members)) + sum(homes: sum(members: age))"
	e, before := parsed(t, sums), houseScene()
	if v, fault := Eval(e, s, at, row); fault != api.OK || v.Kind != api.Number {
		t.Error("Eval", v, fault)
	}
	if !slices.Equal(row[:4], []int{1, 2, 77, 78}) || !slices.Equal(at[:4], []string{"homes", "members", "x", "y"}) || !same(e, parsed(t, sums)) {
		t.Error("row, at or the expression is changed", row[:4], at[:4])
	}
	for i, loop := range s.Loops {
		n := len(loop.Loops)
		if !slices.Equal(loop.Loops, before.Loops[i].Loops) || !slices.Equal(loop.Loops[:n+2][n:], []string{"x", "y"}) {
			t.Error("the loops are changed", loop.Loops[:n+2])
		}
	}
	set := choices(1, 2)
	scene := api.Scene{Cells: []api.Cell{{Name: "s", Kind: api.Choices}}, Bounds: []api.Bound{{Name: "s", Value: set, Asked: true}}}
	for _, e := range []api.Expr{cell("s"), constant(set), op(api.OpIf, constant(boolean(true)), cell("s"), constant(set))} {
		v, fault := Eval(e, scene, nil, nil)
		if !equal(v, set) || fault != api.OK {
			t.Fatal("Eval of a Set", v, fault)
		}
		v.Set[0] = 99
	}
	if !slices.Equal(set.Set, []int{1, 2}) {
		t.Error("a result shares memory with an argument")
	}
}
