package value

import (
	"reflect"
	"slices"
	"strings"
	"testing"

	"canvass/api"
)

func constant(v api.Value) api.Expr  { return api.Expr{Kind: api.XConst, Value: v} }
func cell(name string) api.Expr      { return api.Expr{Kind: api.XAnswer, Name: name} }
func rowNumber(name string) api.Expr { return api.Expr{Kind: api.XRow, Name: name} }
func aggregation(op int, loop string, arg api.Expr) api.Expr {
	return api.Expr{Kind: api.XOver, Op: op, Name: loop, Args: []api.Expr{arg}}
}

// nested returns an expression with so many levels.
func nested(levels int) api.Expr {
	e := cell("a")
	for range levels - 1 {
		e = operation(api.OpNot, e)
	}
	return e
}

// wide returns an OpAnd with so many parts, itself among them.
func wide(parts int) api.Expr {
	return operation(api.OpAnd, slices.Repeat([]api.Expr{cell("a")}, parts-1)...)
}

// parsed returns the expression of a text that has one.
func parsed(t *testing.T, text string) api.Expr {
	t.Helper()
	e, place, fault := Parse(text)
	if fault != api.OK {
		t.Fatalf("Parse(%q): %d at %d", text, fault, place)
	}
	return e
}

// args returns n expressions of one part.
func args(n int) []api.Expr { return slices.Repeat([]api.Expr{cell("a")}, n) }

func TestIsName(t *testing.T) {
	for _, s := range []string{"a", "z", "a1", "a_", "q_1_x", "abcdefghijklmnop", "row", "sum", "min", "if", "dontknow", "ands", "no", "t", "option"} {
		if !IsName(s) {
			t.Error(s, "is a name")
		}
	}
	for _, s := range []string{"", "1", "1a", "_", "_a", "A", "aB", "a b", "a-b", "a.", "a\x00", "ä", "abcdefghijklmnopq", "and", "or", "not", "in", "has", "mod", "true", "false"} {
		if IsName(s) {
			t.Error(s, "is no name")
		}
	}
}

// TestArgs has each operation with too few, enough and too many Args.
func TestArgs(t *testing.T) {
	one := []int{api.OpNot, api.OpAnswered, api.OpAsked, api.OpReason, api.OpNeg, api.OpAbs, api.OpFloor, api.OpRound, api.OpSize, api.OpCode, api.OpLower, api.OpYear, api.OpMonth, api.OpDayOf}
	many := []int{api.OpAnd, api.OpOr, api.OpLeast, api.OpMost}
	for op := api.OpNot; op <= api.OpLater; op++ {
		least, most := 2, 2
		switch {
		case slices.Contains(one, op):
			least, most = 1, 1
		case slices.Contains(many, op):
			most = 299
		case op == api.OpIf:
			least, most = 3, 3
		}
		for _, n := range []int{0, 1, 2, 3, 4, 20, 299} {
			want := api.OK
			if n < least || n > most {
				want = api.ErrForm
			}
			if got := CheckExpr(operation(op, args(n)...)); got != want {
				t.Errorf("CheckExpr of the operation %d with %d Args is %d", op, n, got)
			}
		}
	}
	for op := api.OverSum; op <= api.OverMost; op++ {
		for n := range 4 {
			want := api.OK
			if n != 1 {
				want = api.ErrForm
			}
			if got := CheckExpr(api.Expr{Kind: api.XOver, Op: op, Name: "l", Args: args(n)}); got != want {
				t.Errorf("CheckExpr of the aggregate %d with %d Args is %d", op, n, got)
			}
		}
	}
}

func TestCheckExpr(t *testing.T) {
	one, bad := constant(number(1)), cell("")
	empty := api.Expr{Kind: api.XAnswer, Name: "a", Value: api.Value{Set: []int{}}, Args: []api.Expr{}}
	for i, x := range []struct {
		e    api.Expr
		want api.Fault
	}{
		{one, api.OK}, {constant(text("x")), api.OK}, {constant(choices()), api.OK}, {constant(day(0)), api.OK}, {constant(boolean(false)), api.OK}, {constant(choice(3)), api.OK},
		{cell("a"), api.OK}, {rowNumber("a"), api.OK}, {empty, api.OK},
		{nested(api.MaxDeep), api.OK}, {wide(api.MaxParts), api.OK},
		{nested(api.MaxDeep + 1), api.ErrLarge}, {wide(api.MaxParts + 1), api.ErrLarge}, {nested(60000), api.ErrLarge},
		{operation(api.OpAnd, wide(150), wide(149)), api.OK}, {operation(api.OpAnd, wide(150), wide(150)), api.ErrLarge},

		{api.Expr{}, api.ErrKind}, {api.Expr{Kind: -1}, api.ErrKind}, {api.Expr{Kind: 6}, api.ErrKind},
		{operation(0, one), api.ErrKind}, {operation(40, one), api.ErrKind}, {operation(-1, one), api.ErrKind},
		{aggregation(0, "l", one), api.ErrKind}, {aggregation(7, "l", one), api.ErrKind}, {aggregation(-1, "l", one), api.ErrKind},
		{api.Expr{Kind: 6, Op: 1, Name: "A"}, api.ErrKind}, {operation(40), api.ErrKind}, {api.Expr{Kind: api.XOp, Op: 40, Name: "a"}, api.ErrKind},

		{api.Expr{Kind: api.XConst, Value: number(1), Op: 1}, api.ErrForm}, {api.Expr{Kind: api.XConst, Value: number(1), Name: "a"}, api.ErrForm}, {api.Expr{Kind: api.XConst, Value: number(1), Args: args(1)}, api.ErrForm},
		{api.Expr{Kind: api.XAnswer, Name: "a", Op: 1}, api.ErrForm}, {api.Expr{Kind: api.XAnswer, Name: "a", Value: api.Value{Kind: 1}}, api.ErrForm}, {api.Expr{Kind: api.XAnswer, Name: "a", Value: api.Value{N: 1}}, api.ErrForm}, {api.Expr{Kind: api.XAnswer, Name: "a", Value: api.Value{S: "x"}}, api.ErrForm}, {api.Expr{Kind: api.XAnswer, Name: "a", Value: api.Value{Set: []int{1}}}, api.ErrForm}, {api.Expr{Kind: api.XAnswer, Name: "a", Args: args(1)}, api.ErrForm},
		{api.Expr{Kind: api.XRow, Name: "a", Op: 1}, api.ErrForm}, {api.Expr{Kind: api.XRow, Name: "a", Value: number(0)}, api.ErrForm}, {api.Expr{Kind: api.XRow, Name: "a", Args: args(1)}, api.ErrForm},
		{api.Expr{Kind: api.XOp, Op: api.OpNot, Name: "a", Args: args(1)}, api.ErrForm}, {api.Expr{Kind: api.XOp, Op: api.OpNot, Value: number(1), Args: args(1)}, api.ErrForm},
		{api.Expr{Kind: api.XOver, Op: api.OverSum, Name: "a", Value: number(1), Args: args(1)}, api.ErrForm},
		{api.Expr{Kind: api.XAnswer, Name: "A", Op: 1}, api.ErrForm}, {api.Expr{Kind: api.XConst, Op: 1}, api.ErrForm}, {aggregation(api.OverSum, "A", api.Expr{}), api.ErrName},

		{constant(api.Value{}), api.ErrKind}, {constant(special(1)), api.ErrKind}, {constant(special(9)), api.ErrKind}, {constant(api.Value{N: 1}), api.ErrKind},
		{constant(api.Value{Kind: 8}), api.ErrKind}, {constant(api.Value{Kind: -1}), api.ErrKind}, {constant(api.Value{Kind: api.Number, S: "x"}), api.ErrForm}, {constant(number(api.MaxNumber + 1)), api.ErrRange}, {constant(text(strings.Repeat("x", 201))), api.ErrLarge}, {constant(choices(2, 1)), api.ErrOrder},

		{cell(""), api.ErrName}, {cell("A"), api.ErrName}, {cell("and"), api.ErrName}, {cell("abcdefghijklmnopq"), api.ErrName}, {rowNumber("1"), api.ErrName}, {aggregation(api.OverSum, "true", one), api.ErrName},

		{operation(api.OpAnswered, cell("a")), api.OK}, {operation(api.OpAnswered, one), api.ErrForm}, {operation(api.OpAsked, rowNumber("a")), api.ErrForm}, {operation(api.OpReason, operation(api.OpNot, cell("a"))), api.ErrForm}, {operation(api.OpReason, bad), api.ErrName}, {operation(api.OpAnswered, api.Expr{}), api.ErrForm},

		// Parts in order, each one ahead of its Args.
		{operation(api.OpAdd, bad, api.Expr{}), api.ErrName}, {operation(api.OpAdd, api.Expr{}, bad), api.ErrKind}, {operation(api.OpAdd, one, bad), api.ErrName},
		{operation(api.OpAdd, operation(api.OpNeg, bad), api.Expr{}), api.ErrName}, {operation(api.OpNeg, api.Expr{}, api.Expr{}), api.ErrForm}, {operation(40, bad), api.ErrKind}, {aggregation(api.OverSum, "l", bad), api.ErrName},
		{operation(api.OpAnd, append(args(api.MaxParts-1), api.Expr{})...), api.ErrLarge}, {operation(api.OpNot, nested(api.MaxDeep), api.Expr{}), api.ErrLarge},
	} {
		if got := CheckExpr(x.e); got != x.want {
			t.Errorf("CheckExpr of case %d (%d, %d, %q) is %d, not %d", i, x.e.Kind, x.e.Op, x.e.Name, got, x.want)
		}
	}
}

func TestNames(t *testing.T) {
	for _, x := range []struct {
		text string
		want []string
	}{
		{"1", nil}, {"b", []string{"b"}}, {"b + a * b", []string{"a", "b"}}, {"sum(kids: age * row(kids)) > old and not answered(sex)", []string{"age", "old", "sex"}}, {"row(kids) = 1", nil}, {"z9 = z10 or z_ = z1", []string{"z1", "z10", "z9", "z_"}},
	} {
		if got := Names(parsed(t, x.text)); !slices.Equal(got, x.want) {
			t.Errorf("Names of %q are %q", x.text, got)
		}
	}
	// Of any expression, also of what is none.
	odd := api.Expr{Kind: api.XAnswer, Name: "Z", Args: []api.Expr{{Kind: 77, Name: "no", Args: []api.Expr{cell("")}}, cell("A"), cell("Z"), {Kind: api.XConst, Name: "no"}, {Kind: api.XOver, Name: "no"}}}
	if got := Names(odd); !slices.Equal(got, []string{"", "A", "Z"}) {
		t.Errorf("Names of an odd expression are %q", got)
	}
	if got := Names(nested(60000)); !slices.Equal(got, []string{"a"}) {
		t.Errorf("Names of a deep expression are %q", got)
	}
	if got := Names(api.Expr{}); len(got) != 0 {
		t.Errorf("Names of nothing are %q", got)
	}
}

// same compares expressions in all fields; nil and empty lists are the same.
func same(a, b api.Expr) bool {
	return reflect.DeepEqual(withoutEmpty(a), withoutEmpty(b))
}

func withoutEmpty(e api.Expr) api.Expr {
	if len(e.Value.Set) == 0 {
		e.Value.Set = nil
	}
	var args []api.Expr
	for _, arg := range e.Args {
		args = append(args, withoutEmpty(arg))
	}
	e.Args = args
	return e
}
