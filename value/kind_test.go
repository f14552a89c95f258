package value

import (
	"strings"
	"testing"

	"canvass/api"
)

// letters are names of cells, by their kinds.
const letters = "..ntcsdb"

func kindCells() []api.Cell {
	var out []api.Cell
	for kind := api.Number; kind <= api.Bool; kind++ {
		out = append(out, api.Cell{Name: letters[kind : kind+1], Kind: kind})
	}
	return out
}

// signatures has what V10 permits: the kinds of Args, a colon and the kind of the result.
func signatures(op int) string {
	number := "nn:n"
	switch op {
	case api.OpNot:
		return "b:b"
	case api.OpAnd, api.OpOr:
		return "bb:b bbb:b"
	case api.OpEqual, api.OpUnequal:
		return "nn:b tt:b cc:b ss:b dd:b bb:b"
	case api.OpLess, api.OpAtMost, api.OpGreater, api.OpAtLeast:
		return "nn:b dd:b"
	case api.OpIn:
		return "cs:b"
	case api.OpHas:
		return "sc:b"
	case api.OpAnswered, api.OpAsked:
		return "n:b t:b c:b s:b d:b b:b"
	case api.OpReason:
		return "n:n t:n c:n s:n d:n b:n"
	case api.OpAdd, api.OpSub, api.OpMul, api.OpDiv, api.OpMod:
		return number
	case api.OpNeg, api.OpAbs, api.OpFloor, api.OpRound:
		return "n:n"
	case api.OpLeast, api.OpMost:
		return "nn:n nnn:n dd:d ddd:d"
	case api.OpIf:
		return "bnn:n btt:t bcc:c bss:s bdd:d bbb:b"
	case api.OpElse:
		return "nn:n tt:t cc:c ss:s dd:d bb:b"
	case api.OpSize:
		return "s:n t:n"
	case api.OpCode:
		return "c:n"
	case api.OpLower:
		return "t:t"
	case api.OpJoin:
		return "tt:t"
	case api.OpBegins, api.OpHolds:
		return "tt:b"
	case api.OpYear, api.OpMonth, api.OpDayOf:
		return "d:n"
	case api.OpDays, api.OpAge:
		return "dd:n"
	case api.OpLater:
		return "dn:d"
	}
	return ""
}

// words returns all rows of n letters.
func words(n int) []string {
	if n == 0 {
		return []string{""}
	}
	var out []string
	for _, rest := range words(n - 1) {
		for kind := api.Number; kind <= api.Bool; kind++ {
			out = append(out, rest+letters[kind:kind+1])
		}
	}
	return out
}

func TestKinds(t *testing.T) {
	for kind := api.OpNot; kind <= api.OpLater; kind++ {
		least, most := argsOf(kind)
		for n := least; n <= min(3, most); n++ {
			for _, word := range words(n) {
				var args []api.Expr
				for _, letter := range word {
					args = append(args, cell(string(letter)))
				}
				checkKind(t, op(kind, args...), word, signatures(kind))
			}
		}
	}
	overs := []string{"", "n:n", "b:n", "b:b", "b:b", "n:n d:d", "n:n d:d"}
	for kind := api.OverSum; kind <= api.OverMost; kind++ {
		for _, letter := range words(1) {
			checkKind(t, aggregation(kind, "loop", cell(letter)), letter, overs[kind])
		}
	}
}

// checkKind holds TypeOf of an expression with Args of some kinds against signatures.
func checkKind(t *testing.T, e api.Expr, args, permitted string) {
	t.Helper()
	wantKind, wantFault := 0, api.ErrType
	for _, signature := range strings.Fields(permitted) {
		if from, to, _ := strings.Cut(signature, ":"); from == args {
			wantKind, wantFault = strings.Index(letters, to), api.OK
		}
	}
	kind, fault := TypeOf(e, kindCells(), []api.Nest{{Name: "loop"}}, nil)
	if kind != wantKind || fault != wantFault {
		t.Errorf("TypeOf of %d %d of %s is %d, %d, not %d, %d", e.Kind, e.Op, args, kind, fault, wantKind, wantFault)
	}
}

// house has a loop of homes with one of members within it, and a loop of pets within the homes.
func house() ([]api.Cell, []api.Nest) {
	homes, members := []string{"homes"}, []string{"homes", "members"}
	cells := []api.Cell{{Name: "town", Kind: api.Text}, {Name: "rooms", Kind: api.Number, Loops: homes}, {Name: "age", Kind: api.Number, Loops: members}, {Name: "legs", Kind: api.Number, Loops: []string{"homes", "pets"}}}
	return cells, []api.Nest{{Name: "homes"}, {Name: "members", Loops: homes}, {Name: "pets", Loops: homes}, {Name: "cars"}}
}

func TestPlaces(t *testing.T) {
	cells, loops := house()
	homes, members := []string{"homes"}, []string{"homes", "members"}
	for _, x := range []struct {
		text  string
		at    []string
		kind  int
		fault api.Fault
	}{
		{"1", nil, api.Number, api.OK}, {"#1", nil, api.Choice, api.OK}, {"{}", nil, api.Choices, api.OK}, {"'x'", nil, api.Text, api.OK}, {"@2020-01-01", members, api.Day, api.OK}, {"true", nil, api.Bool, api.OK},
		{"town", nil, api.Text, api.OK}, {"town", homes, api.Text, api.OK}, {"town", members, api.Text, api.OK},
		{"rooms", nil, 0, api.ErrName}, {"rooms", homes, api.Number, api.OK}, {"rooms", members, api.Number, api.OK}, {"rooms", []string{"cars"}, 0, api.ErrName},
		{"age", nil, 0, api.ErrName}, {"age", homes, 0, api.ErrName}, {"age", members, api.Number, api.OK}, {"age", []string{"homes", "pets"}, 0, api.ErrName}, {"gone", members, 0, api.ErrName}, {"homes", homes, 0, api.ErrName}, {"answered(rooms)", nil, 0, api.ErrName}, {"answered(rooms)", homes, api.Bool, api.OK},
		{"row(homes)", nil, 0, api.ErrName}, {"row(homes)", homes, api.Number, api.OK}, {"row(homes)", members, api.Number, api.OK}, {"row(members)", homes, 0, api.ErrName}, {"row(members)", members, api.Number, api.OK}, {"row(pets)", members, 0, api.ErrName}, {"row(town)", members, 0, api.ErrName}, {"row(gone)", members, 0, api.ErrName},
		{"sum(homes: rooms)", nil, api.Number, api.OK}, {"sum(homes: rooms)", members, api.Number, api.OK}, {"sum(homes: age)", members, 0, api.ErrName}, {"sum(members: age)", nil, 0, api.ErrName}, {"sum(members: age)", homes, api.Number, api.OK}, {"sum(members: age)", members, api.Number, api.OK}, {"sum(members: rooms + row(members) + row(homes))", homes, api.Number, api.OK}, {"sum(pets: legs)", members, api.Number, api.OK}, {"sum(pets: age)", members, 0, api.ErrName}, {"sum(pets: row(members))", members, 0, api.ErrName}, {"sum(cars: row(homes))", homes, 0, api.ErrName}, {"sum(cars: row(cars))", members, api.Number, api.OK},
		{"sum(homes: sum(members: age) + sum(pets: legs))", nil, api.Number, api.OK}, {"sum(members: sum(homes: rooms))", homes, api.Number, api.OK}, {"sum(members: sum(homes: age))", homes, 0, api.ErrName}, {"sum(gone: 1)", nil, 0, api.ErrName}, {"sum(town: 1)", nil, 0, api.ErrName},
		// Args first, but the loop of an aggregate ahead of its Arg; all Args are examined.
		{"gone + true", nil, 0, api.ErrName}, {"true + gone", nil, 0, api.ErrName}, {"(1 + true) + gone", nil, 0, api.ErrType}, {"sum(gone: 1 + true)", nil, 0, api.ErrName}, {"sum(homes: 1 + true)", nil, 0, api.ErrType}, {"sum(homes: gone)", nil, 0, api.ErrName}, {"if(true, 1, gone)", nil, 0, api.ErrName}, {"if(1, gone, 2)", nil, 0, api.ErrName}, {"else(1, 'x')", nil, 0, api.ErrType}, {"else(1, gone)", nil, 0, api.ErrName}, {"false and 1 + true = 2", nil, 0, api.ErrType}, {"min(1, 2, 'x')", nil, 0, api.ErrType}, {"true or true or 1", nil, 0, api.ErrType},
	} {
		if kind, fault := TypeOf(parsed(t, x.text), cells, loops, x.at); kind != x.kind || fault != x.fault {
			t.Errorf("TypeOf of %q at %v is %d, %d, not %d, %d", x.text, x.at, kind, fault, x.kind, x.fault)
		}
	}
}

// TestTypeOfFaults has errors of expression, cells, loops and place, in their order.
func TestTypeOfFaults(t *testing.T) {
	one, list := ones(1), func(names ...string) []string { return names }
	cellsOf := func(l ...api.Cell) []api.Cell { return l }
	loopsOf := func(l ...api.Nest) []api.Nest { return l }
	a, b := api.Cell{Name: "a", Kind: api.Number}, api.Cell{Name: "b", Kind: api.Bool}
	l, m := api.Nest{Name: "l"}, api.Nest{Name: "m", Loops: list("l")}
	for i, x := range []struct {
		e     api.Expr
		cells []api.Cell
		loops []api.Nest
		at    []string
		want  api.Fault
	}{
		{one, nil, nil, nil, api.OK}, {one, cellsOf(a, b), loopsOf(l, m), list("l", "m"), api.OK},
		{one, cellsOf(api.Cell{Name: "l", Kind: api.Text}), loopsOf(l), nil, api.OK},
		{one, cellsOf(a, api.Cell{Name: "c", Kind: api.Day, Loops: list("l", "m")}, api.Cell{Name: "d", Kind: api.Choice, Loops: list("l")}), loopsOf(l, m), nil, api.OK},
		{one, cellsOf(api.Cell{Name: "a", Kind: api.Number, Loops: list()}), loopsOf(api.Nest{Name: "l", Loops: list()}), list(), api.OK},
		{one, cellsOf(api.Cell{Name: "A", Kind: api.Number}), nil, nil, api.ErrName}, {one, cellsOf(a, a), nil, nil, api.ErrTwice}, {one, cellsOf(a, api.Cell{Name: "a", Kind: 9}), nil, nil, api.ErrTwice}, {one, cellsOf(api.Cell{Name: "a", Kind: api.Special}), nil, nil, api.ErrKind}, {one, cellsOf(api.Cell{Name: "a"}), nil, nil, api.ErrKind}, {one, cellsOf(api.Cell{Name: "a", Kind: 8}), nil, nil, api.ErrKind}, {one, cellsOf(api.Cell{Name: "", Kind: 8}), nil, nil, api.ErrName},
		{one, cellsOf(a, api.Cell{Name: "b", Kind: 8}, api.Cell{Name: "in", Kind: 3}), nil, nil, api.ErrKind}, {one, cellsOf(a, api.Cell{Name: "in", Kind: 3}, api.Cell{Name: "b", Kind: 8}), nil, nil, api.ErrName},
		{one, nil, loopsOf(api.Nest{Name: "L"}), nil, api.ErrName}, {one, nil, loopsOf(l, l), nil, api.ErrTwice}, {one, nil, loopsOf(l, api.Nest{Name: "l", Loops: list("x")}), nil, api.ErrTwice}, {one, nil, loopsOf(m, l), nil, api.ErrOrder}, {one, nil, loopsOf(l, api.Nest{Name: "m", Loops: list("x", "l")}), nil, api.ErrOrder}, {one, nil, loopsOf(l, m, api.Nest{Name: "n", Loops: list("m")}), nil, api.ErrOrder}, {one, nil, loopsOf(api.Nest{Name: "l", Loops: list("l")}), nil, api.ErrOrder}, {one, nil, loopsOf(l, m, api.Nest{Name: "n", Loops: list("m", "l")}), nil, api.ErrOrder}, {one, nil, loopsOf(api.Nest{Name: "", Loops: list("x")}), nil, api.ErrName},
		{one, cellsOf(api.Cell{Name: "a", Kind: 2, Loops: list("l")}), nil, nil, api.ErrNone}, {one, cellsOf(api.Cell{Name: "a", Kind: 2, Loops: list("m")}), loopsOf(l, m), nil, api.ErrNone}, {one, cellsOf(api.Cell{Name: "a", Kind: 2, Loops: list("m", "l")}), loopsOf(l, m), nil, api.ErrNone}, {one, cellsOf(api.Cell{Name: "a", Kind: 2, Loops: list("l", "l")}), loopsOf(l), nil, api.ErrNone},
		{one, nil, nil, list("l"), api.ErrNone}, {one, nil, loopsOf(l, m), list("m"), api.ErrNone}, {one, nil, loopsOf(l, m), list("m", "l"), api.ErrNone}, {one, nil, loopsOf(l, m), list("l", "m", "m"), api.ErrNone}, {one, nil, loopsOf(l), list(""), api.ErrNone},
		// All errors of the expression, then of cells, then of loops, then of the places of cells, then of at, then of names and kinds.
		{api.Expr{}, cellsOf(api.Cell{}), nil, nil, api.ErrKind}, {op(api.OpNot), cellsOf(api.Cell{}), nil, nil, api.ErrForm}, {nested(21), cellsOf(a, a), nil, nil, api.ErrLarge},
		{one, cellsOf(api.Cell{Name: "a", Kind: 2, Loops: list("x")}, a), loopsOf(m), list("y"), api.ErrTwice}, {one, cellsOf(api.Cell{Name: "a", Kind: 2, Loops: list("x")}), loopsOf(m), list("y"), api.ErrOrder}, {cell("z"), cellsOf(api.Cell{Name: "a", Kind: 2, Loops: list("x")}), nil, list("y"), api.ErrNone}, {cell("z"), nil, nil, list("y"), api.ErrNone}, {cell("z"), nil, nil, nil, api.ErrName},
	} {
		kind, fault := TypeOf(x.e, x.cells, x.loops, x.at)
		if fault != x.want || fault == api.OK && kind != api.Number || fault != api.OK && kind != 0 {
			t.Errorf("TypeOf of case %d is %d, %d, not %d", i, kind, fault, x.want)
		}
	}
}
