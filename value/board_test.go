package value

import (
	"slices"
	"testing"

	"canvass/api"
)

func houseBoard(t *testing.T) Board {
	t.Helper()
	s := houseScene()
	b, fault := BoardOf(s.Cells, s.Loops)
	if fault != api.OK {
		t.Fatal("BoardOf", fault)
	}
	return b
}

// TestBoard holds that what Meaning returned at first tells what Eval does in a scene that grows.
func TestBoard(t *testing.T) {
	b, all := houseBoard(t), houseScene()
	type place struct {
		text string
		at   []string
		rows [][]int
	}
	homes, members := [][]int{{1}, {2}, {3}, {257}}, [][]int{{1, 2}, {1, 5}, {3, 1}, {257, 2}}
	places := []place{
		{"town", nil, [][]int{nil}}, {"answered(town)", nil, [][]int{nil}}, {"rooms", []string{"homes"}, homes}, {"asked(age)", []string{"homes", "members"}, members}, {"reason(age)", []string{"homes", "members"}, members}, {"age", []string{"homes", "members"}, members},
		{"sum(homes: rooms)", nil, [][]int{nil}}, {"sum(homes: sum(members: age)) + sum(homes: rooms)", nil, [][]int{nil}}, {"count(members: old)", []string{"homes"}, homes}, {"all(homes: any(pets: legs = 4) or rooms = 2)", nil, [][]int{nil}}, {"row(homes)", []string{"homes"}, homes}, {"town", []string{"homes"}, homes}, {"sum(members: rooms * row(members))", []string{"homes"}, homes},
	}
	meanings := make([]func(row []int) (api.Value, api.Fault), len(places))
	for i, x := range places {
		meaning, fault := b.Meaning(parsed(t, x.text), x.at)
		if fault != api.OK {
			t.Fatal("Meaning", x.text, fault)
		}
		meanings[i] = meaning
	}
	hold := func(s api.Scene) {
		t.Helper()
		for i, x := range places {
			for _, row := range x.rows {
				want, wanted := Eval(parsed(t, x.text), s, x.at, row)
				if got, fault := meanings[i](row); !equal(got, want) || fault != wanted || wanted != api.OK {
					t.Error("Meaning", x.text, row, got, fault, "not", want)
				}
			}
		}
	}
	s := api.Scene{Cells: all.Cells, Loops: all.Loops}
	hold(s)
	for range 2 {
		for _, rows := range all.Rows {
			s.Rows = append(s.Rows, rows)
			if fault := b.Set(rows); fault != api.OK {
				t.Error("Set", fault)
			}
			hold(s)
		}
		for i := range all.Bounds {
			bound := all.Bounds[len(all.Bounds)-1-i]
			s.Bounds = append([]api.Bound{bound}, s.Bounds...)
			if fault := b.Bind(bound); fault != api.OK {
				t.Error("Bind", fault)
			}
			hold(s)
		}
		s.Bounds, s.Rows = nil, nil
		b.Clear()
		hold(s)
	}
	// What is bound again counts from then on.
	for n := range 3 {
		s.Bounds = []api.Bound{{Name: "rooms", Row: []int{1}, Value: number(n * unit), Asked: n != 1}, {Name: "rooms", Row: []int{257}, Value: number(7 * unit), Asked: true}}
		s.Rows = []api.Rows{{Loop: "homes", Numbers: [][]int{{1}, {1, 257}, {257}}[n]}}
		if b.Bind(s.Bounds[0]) != api.OK || b.Bind(s.Bounds[1]) != api.OK {
			t.Error("Bind again")
		}
		hold(api.Scene{Cells: s.Cells, Loops: s.Loops, Bounds: s.Bounds, Rows: []api.Rows{{Loop: "homes", Numbers: [][]int{nil, {1}, {1, 257}}[n]}}})
		if b.Set(s.Rows[0]) != api.OK {
			t.Error("Set again")
		}
		hold(s)
	}
	b.Clear()
	hold(api.Scene{Cells: s.Cells, Loops: s.Loops})
}

func TestBoardErrors(t *testing.T) {
	b, s := houseBoard(t), houseScene()
	for _, x := range []struct {
		bound api.Bound
		want  api.Fault
	}{
		{api.Bound{Name: "tower", Row: []int{0}}, api.ErrName}, {api.Bound{Name: "homes", Row: []int{0}}, api.ErrName}, {api.Bound{Name: "rooms", Value: api.Value{Kind: 9}}, api.ErrForm}, {api.Bound{Name: "rooms", Row: []int{0}, Value: api.Value{Kind: 9}}, api.ErrRange}, {api.Bound{Name: "rooms", Row: []int{1000}}, api.ErrRange},
		{api.Bound{Name: "rooms", Row: []int{1}, Value: api.Value{Kind: 9}}, api.ErrKind}, {api.Bound{Name: "rooms", Row: []int{1}, Value: text("x")}, api.ErrType}, {api.Bound{Name: "rooms", Row: []int{1}, Value: special(1)}, api.OK},
	} {
		if fault := b.Bind(x.bound); fault != x.want {
			t.Error("Bind", x.bound, fault)
		}
	}
	for _, x := range []struct {
		rows api.Rows
		want api.Fault
	}{
		{api.Rows{Loop: "houses", Row: []int{0}}, api.ErrName}, {api.Rows{Loop: "homes", Row: []int{0}, Numbers: []int{0}}, api.ErrForm}, {api.Rows{Loop: "members", Row: []int{0}, Numbers: []int{0}}, api.ErrRange}, {api.Rows{Loop: "members", Row: []int{1}, Numbers: []int{1000}}, api.ErrRange}, {api.Rows{Loop: "members", Row: []int{1}, Numbers: []int{2, 2}}, api.ErrOrder}, {api.Rows{Loop: "members", Row: []int{1}}, api.OK},
	} {
		if fault := b.Set(x.rows); fault != x.want {
			t.Error("Set", x.rows, fault)
		}
	}
	for _, x := range []struct {
		e    api.Expr
		at   []string
		want api.Fault
	}{
		{api.Expr{}, []string{"x"}, api.ErrKind}, {cell("rooms"), []string{"x"}, api.ErrNone}, {cell("rooms"), nil, api.ErrName}, {parsed(t, "not rooms"), []string{"homes"}, api.ErrType},
	} {
		if meaning, fault := b.Meaning(x.e, x.at); meaning != nil || fault != x.want {
			t.Error("Meaning", x.e, fault)
		}
	}
	meaning, _ := b.Meaning(cell("rooms"), []string{"homes"})
	for _, x := range []struct {
		row  []int
		want api.Fault
	}{{nil, api.ErrForm}, {[]int{1, 1}, api.ErrForm}, {[]int{0}, api.ErrRange}, {[]int{1000}, api.ErrRange}} {
		if v, fault := meaning(x.row); fault != x.want || !equal(v, api.Value{}) {
			t.Error("Meaning for", x.row, fault)
		}
	}
	s.Cells[0].Kind = api.Missing
	if b, fault := BoardOf(s.Cells, s.Loops); b.known != nil || fault != api.ErrKind {
		t.Error("BoardOf a wrong cell", fault)
	}
}

// TestBoardMemory holds that a board keeps nothing that it was given, and gives out nothing of its own.
func TestBoardMemory(t *testing.T) {
	cells := []api.Cell{{Name: "s", Kind: api.Choices}, {Name: "q", Kind: api.Number, Loops: []string{"l"}}}
	loops := []api.Nest{{Name: "l"}}
	b, _ := BoardOf(cells, loops)
	e, at := parsed(t, "if(q = 3, s, {#9})"), []string{"l"}
	meaning, _ := b.Meaning(e, at)
	sum, _ := b.Meaning(parsed(t, "sum(l: q)"), nil)
	set, row, numbers := api.Bound{Name: "s", Value: choices(1, 2), Asked: true}, []int{4}, []int{4}
	b.Bind(set)
	b.Bind(api.Bound{Name: "q", Row: row, Value: number(3 * unit), Asked: true})
	b.Set(api.Rows{Loop: "l", Numbers: numbers})
	set.Value.Set[0], row[0], numbers[0], cells[0].Kind, cells[1].Loops[0], loops[0].Name, at[0] = 9, 1, 1, api.Day, "x", "x", "x"
	e.Args[0].Args[0].Name, e.Args[1].Name, e.Args[2].Value.Set[0] = "x", "x", 8
	for range 2 {
		got, fault := meaning([]int{4})
		if fault != api.OK || !slices.Equal(got.Set, []int{1, 2}) {
			t.Error("Meaning", got, fault)
			break
		}
		got.Set[0] = 9
	}
	b.Bind(api.Bound{Name: "q", Row: []int{5}, Asked: true})
	if got, fault := meaning([]int{5}); !slices.Equal(got.Set, []int{9}) || fault != api.OK {
		t.Error("a meaning keeps what it was given", got, fault)
	}
	if _, fault := b.Meaning(cell("q"), []string{"l"}); fault != api.OK {
		t.Error("a board keeps what it was given", fault)
	}
	if got, fault := sum(nil); got.N != 3*unit || fault != api.OK {
		t.Error("Meaning of a sum", got, fault)
	}
}

// TestMeaningOfView holds that Meaning of a view does what its Eval does.
func TestMeaningOfView(t *testing.T) {
	v, _ := ViewOf(houseScene())
	for _, text := range []string{"sum(members: age) + rooms", "rooms > 2", "age", "not rooms", "rooms < 0 or count(members: old) = 1"} {
		meaning, fault := v.Meaning(parsed(t, text), []string{"homes"})
		for _, row := range [][]int{{1}, {3}, {0}, nil} {
			want, wanted := v.Eval(parsed(t, text), []string{"homes"}, row)
			if fault != api.OK {
				if fault != wanted || meaning != nil {
					t.Error("Meaning", text, fault, wanted)
				}
				continue
			}
			if got, fault := meaning(row); !equal(got, want) || fault != wanted {
				t.Error("Meaning", text, row, got, fault)
			}
		}
	}
}
