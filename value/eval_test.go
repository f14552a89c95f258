package value

import (
	"strings"
	"testing"

	"canvass/api"
)

// missingScene has a cell with a value for each kind (n, t, c, s, d, b), one that is Missing (with an m ahead), one that is Special (with an r) and one with a value that is not asked (with a u). Those with a g ahead have no Bound.
func missingScene() api.Scene {
	values := map[string]api.Value{"n": number(3 * unit), "t": text("Tom"), "c": choice(2), "s": choices(1, 2), "d": day(0), "b": boolean(true)}
	var s api.Scene
	bind := func(name string, kind int, v api.Value, asked bool) {
		s.Cells = append(s.Cells, api.Cell{Name: name, Kind: kind})
		s.Bounds = append(s.Bounds, api.Bound{Name: name, Value: v, Asked: asked})
	}
	for _, name := range []string{"b", "c", "d", "n", "s", "t"} {
		bind(name, values[name].Kind, values[name], true)
		bind("m"+name, values[name].Kind, api.Value{}, true)
		bind("r"+name, values[name].Kind, special(api.NoAnswer), true)
		bind("u"+name, values[name].Kind, values[name], false)
		bind("x"+name, values[name].Kind, special(api.Refused), false)
		s.Cells = append(s.Cells, api.Cell{Name: "g" + name, Kind: values[name].Kind})
	}
	sortBounds(s.Bounds)
	return s
}

func sortBounds(l []api.Bound) {
	for i := range l {
		for j := i; j > 0 && compareBounds(l[j-1], l[j]) > 0; j-- {
			l[j-1], l[j] = l[j], l[j-1]
		}
	}
}

// holdEvals evaluates texts at a place and holds what Show tells of the values against what is wanted.
func holdEvals(t *testing.T, s api.Scene, at []string, row []int, l [][2]string) {
	t.Helper()
	for _, x := range l {
		v, fault := Eval(parsed(t, x[0]), s, at, row)
		if got, _ := Show(v); got != x[1] || fault != api.OK {
			t.Errorf("Eval of %q is %q, %d, not %q", x[0], got, fault, x[1])
		}
	}
}

func TestOperations(t *testing.T) {
	holdEvals(t, missingScene(), nil, nil, [][2]string{
		{"true", "true"}, {"#3", "#3"}, {"{#1,#9}", "{#1,#9}"}, {"'it''s'", "'it''s'"}, {"@2000-01-01", "@2000-01-01"}, {"-1.5", "-1.5"}, {"n", "3"}, {"t", "'Tom'"}, {"c", "#2"}, {"s", "{#1,#2}"}, {"d", "@1970-01-01"}, {"b", "true"},
		{"not true", "false"}, {"not false", "true"}, {"true and true and true", "true"}, {"true and false and true", "false"}, {"false or false or true", "true"}, {"false or false", "false"},
		{"1 = 1", "true"}, {"1 = 2", "false"}, {"1 <> 1", "false"}, {"1 <> 2", "true"}, {"'a' = 'a'", "true"}, {"'a' = 'A'", "false"}, {"#1 = #1", "true"}, {"#1 <> #2", "true"}, {"{} = {}", "true"}, {"{#1} = {#1,#2}", "false"}, {"{#1} <> {#2}", "true"}, {"@1970-01-01 = d", "true"}, {"true = false", "false"}, {"b = true", "true"},
		{"1 < 2", "true"}, {"2 < 2", "false"}, {"-1 < -2", "false"}, {"2 <= 2", "true"}, {"3 <= 2", "false"}, {"3 > 2", "true"}, {"2 > 2", "false"}, {"2 >= 2", "true"}, {"1 >= 2", "false"}, {"@1970-01-01 < @1970-01-02", "true"}, {"@1970-01-01 >= @1970-01-02", "false"}, {"@1970-01-02 <= d", "false"}, {"@1970-01-02 > d", "true"},
		{"#2 in {#1,#2}", "true"}, {"#3 in {#1,#2}", "false"}, {"#1 in {}", "false"}, {"{#1,#2} has #2", "true"}, {"{#1,#2} has #3", "false"}, {"c in s", "true"},
		{"1.5 + 2.25", "3.75"}, {"1 - 2.5", "-1.5"}, {"99999999999.9999 + 0.0001", "-"}, {"-99999999999.9999 - 0.0001", "-"}, {"99999999999.9998 + 0.0001", "99999999999.9999"}, {"-99999999999.9998 - 0.0001", "-99999999999.9999"}, {"99999999999.9999 + 99999999999.9999", "-"},
		{"2 * 0.5", "1"}, {"0.01 * 0.01", "0.0001"}, {"0.01 * 0.005", "0.0001"}, {"-0.01 * 0.005", "-0.0001"}, {"0.01 * 0.0049", "0"}, {"-0.01 * 0.0049", "0"}, {"0.0001 * 0.4999", "0"}, {"0.0001 * 0.5", "0.0001"}, {"-0.0003 * 0.5", "-0.0002"}, {"-3 * -4", "12"}, {"99999999999.9999 * 1", "99999999999.9999"}, {"99999999999.9999 * 1.0001", "-"}, {"99999999999.9999 * 99999999999.9999", "-"}, {"-99999999999.9999 * 99999999999.9999", "-"}, {"333333.3333 * 300000", "99999999990"}, {"100000 * 1000000", "-"}, {"429496729.6 * 4294967.296", "-"}, {"42949672.96 * 42949672.96", "-"}, {"0 * 5", "0"},
		{"7 / 2", "3.5"}, {"1 / 3", "0.3333"}, {"2 / 3", "0.6667"}, {"-2 / 3", "-0.6667"}, {"2 / -3", "-0.6667"}, {"-2 / -3", "0.6667"}, {"0.0001 / 2", "0.0001"}, {"-0.0001 / 2", "-0.0001"}, {"0.0001 / 3", "0"}, {"0.0003 / 2", "0.0002"}, {"1 / 0", "-"}, {"0 / 0", "-"}, {"0 / 5", "0"}, {"99999999999.9999 / 0.0001", "-"}, {"99999999999.9999 / 1", "99999999999.9999"}, {"99999999999.9999 / -0.9999", "-"}, {"99999999999.9999 / 99999999999.9999", "1"}, {"0.0001 / 99999999999.9999", "0"},
		{"7 mod 2", "1"}, {"-7 mod 2", "1"}, {"7 mod -2", "-1"}, {"-7 mod -2", "-1"}, {"6 mod -2", "0"}, {"-6 mod 2", "0"}, {"5.5 mod 2", "1.5"}, {"-0.5 mod 2", "1.5"}, {"0.5 mod 0.2", "0.1"}, {"0.5 mod -0.2", "-0.1"}, {"7 mod 0", "-"}, {"99999999999.9999 mod 0.0002", "0.0001"}, {"-99999999999.9999 mod 99999999999.9998", "99999999999.9997"},
		{"-(2.5)", "-2.5"}, {"--2.5", "2.5"}, {"-(0)", "0"}, {"abs(-2.5)", "2.5"}, {"abs(2.5)", "2.5"}, {"abs(0)", "0"},
		{"floor(2.9999)", "2"}, {"floor(-0.0001)", "-1"}, {"floor(-1)", "-1"}, {"floor(0)", "0"}, {"floor(-99999999999.9999)", "-"}, {"floor(99999999999.9999)", "99999999999"}, {"round(2.5)", "3"}, {"round(2.4999)", "2"}, {"round(-2.5)", "-3"}, {"round(-2.4999)", "-2"}, {"round(0.5)", "1"}, {"round(-0.5)", "-1"}, {"round(0.4999)", "0"}, {"round(7)", "7"}, {"round(-7)", "-7"}, {"round(99999999999.5)", "-"}, {"round(-99999999999.5)", "-"}, {"round(99999999999.4999)", "99999999999"},
		{"min(2, 1, 3)", "1"}, {"max(2, 1, 3)", "3"}, {"min(-1, -2)", "-2"}, {"max(-1, -2)", "-1"}, {"min(@1970-01-02, d)", "@1970-01-01"}, {"max(@1970-01-02, d, @1969-01-01)", "@1970-01-02"},
		{"if(true, 1, 2)", "1"}, {"if(false, 1, 2)", "2"}, {"if(1 = 1, 'a', 'b')", "'a'"}, {"if(false, {#1}, {})", "{}"}, {"else(1, 2)", "1"}, {"else(1 / 0, 2)", "2"}, {"else(false, true)", "false"},
		{"size({#1,#4,#9})", "3"}, {"size({})", "0"}, {"size('')", "0"}, {"size('it''s')", "4"}, {"code(#17)", "17"}, {"code(c)", "2"},
		{"lower('AbZ[@`{z9 ')", "'abz[@`{z9 '"}, {"lower('')", "''"}, {"join('a', 'b')", "'ab'"}, {"join('', '')", "''"}, {"join('b', 'a')", "'ba'"},
		{"begins('abc', 'ab')", "true"}, {"begins('abc', '')", "true"}, {"begins('abc', 'bc')", "false"}, {"begins('ab', 'abc')", "false"}, {"holds('abc', 'b')", "true"}, {"holds('abc', 'bc')", "true"}, {"holds('abc', 'ac')", "false"}, {"holds('', '')", "true"}, {"holds('b', 'abc')", "false"},
		{"year(@2026-11-17)", "2026"}, {"month(@2026-11-17)", "11"}, {"day(@2026-11-17)", "17"}, {"year(@1900-01-01)", "1900"}, {"month(@2000-02-29)", "2"}, {"day(@2000-02-29)", "29"},
		{"days(@1970-01-01, @1970-02-01)", "31"}, {"days(@1970-02-01, @1970-01-01)", "-31"}, {"days(@1900-01-01, @2199-12-31)", "109572"}, {"days(d, d)", "0"},
		{"age(@2000-02-29, @2001-02-27)", "0"}, {"age(@2000-02-29, @2001-02-28)", "1"}, {"age(@2000-02-29, @2004-02-28)", "3"}, {"age(@2000-02-29, @2004-02-29)", "4"}, {"age(d, d)", "0"}, {"age(@1970-01-02, d)", "-"}, {"age(@1980-06-15, @2020-06-14)", "39"}, {"age(@1980-06-15, @2020-06-15)", "40"}, {"age(@1980-06-15, @2020-12-31)", "40"}, {"age(@1900-01-01, @2199-12-31)", "299"}, {"age(@2000-12-31, @2001-01-01)", "0"},
		{"later(@1970-01-01, 31)", "@1970-02-01"}, {"later(@1970-01-01, -1)", "@1969-12-31"}, {"later(d, 0)", "@1970-01-01"}, {"later(d, 0.5)", "-"}, {"later(d, 1.0001)", "-"}, {"later(d, 84005)", "@2199-12-31"}, {"later(d, 84006)", "-"}, {"later(d, -25567)", "@1900-01-01"}, {"later(d, -25568)", "-"}, {"later(d, 99999999999)", "-"}, {"later(d, -99999999999)", "-"},
	})
	long := "'" + strings.Repeat("x", 199) + "'"
	holdEvals(t, missingScene(), nil, nil, [][2]string{
		{"size(join(" + long + ", 'y'))", "200"}, {"join(" + long + ", 'yy')", "-"}, {"join('yy', " + long + ")", "-"}, {"size(join(" + long + ", 'yy'))", "-"}, {"else(join(" + long + ", 'yy'), 'z')", "'z'"},
	})
}

// TestMissing has operations with Args that are missing: Missing, Special, not asked (with and without a value), or without a Bound.
func TestMissing(t *testing.T) {
	for _, x := range [][2]string{
		{"?n", "-"}, {"?t", "-"}, {"?c", "-"}, {"?s", "-"}, {"?d", "-"}, {"?b", "false"},
		{"not ?b", "true"}, {"not not ?b", "false"}, {"b and ?b", "false"}, {"b or ?b", "true"}, {"?b or ?b", "false"}, {"?b or b", "true"}, {"not (b and ?b)", "true"},
		{"?n = 3", "false"}, {"3 = ?n", "false"}, {"?n = ?n", "false"}, {"?n <> 4", "false"}, {"?n <> ?n", "false"}, {"not ?n <> 4", "true"}, {"?b = false", "false"}, {"?b <> true", "false"}, {"?t = ''", "false"}, {"?s = {}", "false"}, {"?s <> {}", "false"}, {"?c = #1", "false"},
		{"?n < 4", "false"}, {"?n <= 4", "false"}, {"?n > -4", "false"}, {"?n >= -4", "false"}, {"4 < ?n", "false"}, {"?d < d", "false"}, {"?d >= d", "false"}, {"?c in {#1,#2}", "false"}, {"#1 in ?s", "false"}, {"?s has #1", "false"}, {"{#1} has ?c", "false"}, {"begins(?t, '')", "false"}, {"begins('a', ?t)", "false"}, {"holds(?t, '')", "false"}, {"holds('a', ?t)", "false"}, {"not holds('a', ?t)", "true"},
		{"?n + 1", "-"}, {"1 + ?n", "-"}, {"?n - 1", "-"}, {"0 * ?n", "-"}, {"0 / ?n", "-"}, {"?n mod 1", "-"}, {"-?n", "-"}, {"abs(?n)", "-"}, {"floor(?n)", "-"}, {"round(?n)", "-"}, {"min(1, ?n)", "-"}, {"max(?n, 1)", "-"}, {"min(d, ?d, d)", "-"}, {"size(?s)", "-"}, {"size(?t)", "-"}, {"code(?c)", "-"}, {"lower(?t)", "-"}, {"join(?t, '')", "-"}, {"join('', ?t)", "-"}, {"year(?d)", "-"}, {"month(?d)", "-"}, {"day(?d)", "-"}, {"days(?d, d)", "-"}, {"days(d, ?d)", "-"}, {"age(d, ?d)", "-"}, {"age(?d, d)", "-"}, {"later(?d, 1)", "-"}, {"later(d, ?n)", "-"}, {"?n + 1 = ?n + 1", "false"},
		{"if(?b, 1, 2)", "2"}, {"if(b, ?n, 2)", "-"}, {"if(b, 1, ?n)", "1"}, {"if(?b, 1, ?n)", "-"}, {"if(b, ?b, b)", "false"}, {"if(b, ?b, b) = false", "false"}, {"else(?n, 2)", "2"}, {"else(?n, ?n)", "-"}, {"else(n, ?n)", "3"}, {"else(?b, b)", "true"}, {"else(?b, ?b)", "false"}, {"else(?b, ?b) = false", "false"}, {"else(else(?n, ?n), 5)", "5"}, {"else(?t, 'x')", "'x'"},
		{"answered(?n)", "false"}, {"answered(?b)", "false"}, {"not answered(?d)", "true"},
		{"any(l: ?b)", "false"}, {"all(l: ?b)", "true"},
	} {
		for _, letter := range []string{"m", "r", "u", "x", "g"} {
			s := missingScene()
			s.Loops = []api.Nest{{Name: "l"}}
			holdEvals(t, s, nil, nil, [][2]string{{strings.ReplaceAll(x[0], "?", letter), x[1]}})
		}
	}
	holdEvals(t, missingScene(), nil, nil, [][2]string{
		{"answered(n)", "true"}, {"answered(b)", "true"}, {"answered(s)", "true"},
		{"asked(n)", "true"}, {"asked(mn)", "true"}, {"asked(rn)", "true"}, {"asked(un)", "false"}, {"asked(xn)", "false"}, {"asked(gn)", "false"},
		{"reason(n)", "0"}, {"reason(mn)", "0"}, {"reason(rn)", "3"}, {"reason(un)", "0"}, {"reason(xn)", "0"}, {"reason(gn)", "0"}, {"reason(rb) = 3", "true"}, {"reason(gb) + 1", "1"},
	})
}

// TestExample is that of the document.
func TestExample(t *testing.T) {
	s := api.Scene{
		Cells:  []api.Cell{{Name: "sex", Kind: api.Choice}, {Name: "age", Kind: api.Number}},
		Bounds: []api.Bound{{Name: "age", Value: number(175000), Asked: true}},
	}
	holdEvals(t, s, nil, nil, [][2]string{{"age >= 18 or sex <> #1", "false"}, {"not sex = #1", "true"}})
}

func TestLoops(t *testing.T) {
	s := houseScene()
	holdEvals(t, s, nil, nil, [][2]string{
		{"town", "'Ulm'"}, {"rent", "-"}, {"asked(rent)", "false"},
		{"sum(homes: rooms)", "4.5"}, {"sum(homes: row(homes))", "4"}, {"count(homes: rooms > 2)", "1"}, {"count(homes: true)", "2"}, {"least(homes: rooms)", "2"}, {"most(homes: rooms)", "2.5"}, {"any(homes: row(homes) = 3)", "true"}, {"any(homes: row(homes) = 2)", "false"}, {"all(homes: rooms >= 2)", "true"}, {"all(homes: rooms > 2)", "false"},
		{"sum(homes: sum(members: age))", "30"}, {"sum(homes: sum(members: row(members)))", "7"}, {"count(homes: any(members: old))", "1"}, {"sum(homes: count(members: true) * 10 + row(homes))", "24"}, {"most(homes: sum(pets: legs))", "4"}, {"sum(homes: sum(homes: rooms))", "9"}, {"sum(homes: sum(members: sum(homes: rooms)))", "9"}, {"all(homes: all(members: age > 5))", "false"}, {"all(homes: any(members: true) or any(pets: legs = 4))", "true"},
		// Without rows.
		{"sum(cars: 1)", "0"}, {"count(cars: true)", "0"}, {"any(cars: true)", "false"}, {"all(cars: false)", "true"}, {"least(cars: 1)", "-"}, {"most(cars: @1970-01-01)", "-"},
		// Rows with values that are missing.
		{"sum(homes: 1 / 0)", "0"}, {"count(homes: rent > 1)", "0"}, {"any(homes: not rent > 1)", "true"}, {"least(homes: rent)", "-"}, {"most(homes: if(row(homes) = 1, rent, 5))", "5"}, {"least(homes: if(row(homes) = 1, rent, 5))", "5"}, {"sum(homes: if(row(homes) = 1, rent, 5))", "5"},
		{"least(homes: if(row(homes) = 1, @1970-01-02, @1970-01-01))", "@1970-01-01"}, {"most(homes: if(row(homes) = 1, @1970-01-02, @1970-01-01))", "@1970-01-02"},
		// Sums that are too large, in the end or only on the way.
		{"sum(homes: 99999999999)", "-"}, {"sum(homes: -99999999999)", "-"}, {"sum(homes: if(row(homes) = 1, 99999999999.9999, -1))", "99999999998.9999"}, {"sum(homes: if(row(homes) = 1, 99999999999.9999, 0.0001))", "-"},
	})
	holdEvals(t, s, []string{"homes"}, []int{1}, [][2]string{
		{"rooms", "2"}, {"row(homes)", "1"}, {"town", "'Ulm'"}, {"sum(members: age)", "30"}, {"sum(members: row(members) + rooms)", "11"}, {"count(members: old)", "1"}, {"count(members: answered(age))", "1"}, {"count(members: asked(age))", "2"}, {"sum(members: reason(age))", "2"}, {"all(members: old)", "false"}, {"sum(pets: legs)", "0"}, {"sum(homes: rooms)", "4.5"}, {"sum(homes: row(homes)) + row(homes)", "5"}, {"least(members: age)", "30"},
	})
	holdEvals(t, s, []string{"homes"}, []int{3}, [][2]string{
		{"rooms", "2.5"}, {"row(homes)", "3"}, {"sum(members: age)", "0"}, {"count(members: true)", "0"}, {"sum(pets: legs)", "4"}, {"sum(pets: row(pets) * 10 + row(homes))", "73"},
	})
	holdEvals(t, s, []string{"homes", "members"}, []int{1, 2}, [][2]string{
		{"age", "30"}, {"old", "true"}, {"rooms", "2"}, {"row(members)", "2"}, {"row(homes)", "1"}, {"sum(members: row(members))", "7"}, {"age = least(members: age)", "true"}, {"sum(pets: legs)", "0"},
	})
	holdEvals(t, s, []string{"homes", "members"}, []int{1, 5}, [][2]string{{"age", "-"}, {"old", "false"}, {"reason(age)", "2"}})
	// A row that the loop does not have, and a value that is not asked there.
	holdEvals(t, s, []string{"homes", "members"}, []int{3, 1}, [][2]string{{"age", "-"}, {"asked(age)", "false"}, {"rooms", "2.5"}, {"row(members)", "1"}, {"sum(members: 1)", "0"}})
	holdEvals(t, s, []string{"homes", "members"}, []int{999, 999}, [][2]string{{"age", "-"}, {"rooms", "-"}, {"row(members)", "999"}})
}

func TestEvalFaults(t *testing.T) {
	s, homes, members := houseScene(), []string{"homes"}, []string{"homes", "members"}
	unsound := changed(func(s *api.Scene) { s.Rows[0].Loop = "x" })
	for i, x := range []struct {
		e    api.Expr
		s    api.Scene
		at   []string
		row  []int
		want api.Fault
	}{
		{cell("town"), s, nil, nil, api.OK}, {cell("town"), s, nil, []int{}, api.OK}, {cell("town"), s, members, []int{1, 999}, api.OK},
		{cell("rooms"), s, nil, nil, api.ErrName}, {cell("rooms"), s, []string{"members"}, nil, api.ErrNone}, {op(api.OpNot, cell("town")), s, nil, nil, api.ErrType}, {api.Expr{}, s, nil, nil, api.ErrKind}, {cell("A"), s, nil, nil, api.ErrName}, {nested(21), s, nil, nil, api.ErrLarge},
		{cell("rooms"), s, homes, nil, api.ErrForm}, {cell("rooms"), s, homes, []int{1, 1}, api.ErrForm}, {cell("town"), s, nil, []int{1}, api.ErrForm}, {cell("rooms"), s, homes, []int{0}, api.ErrRange}, {cell("rooms"), s, homes, []int{1000}, api.ErrRange}, {cell("town"), s, members, []int{1, -1}, api.ErrRange}, {cell("town"), s, members, []int{0}, api.ErrForm},
		// The scene, then the expression at the place, then the row.
		{api.Expr{}, unsound, []string{"x"}, []int{0}, api.ErrName}, {api.Expr{}, s, []string{"x"}, []int{0}, api.ErrKind}, {cell("gone"), s, []string{"x"}, []int{0}, api.ErrNone}, {cell("gone"), s, homes, []int{0}, api.ErrName}, {op(api.OpNot, cell("town")), s, homes, []int{0, 0}, api.ErrType},
	} {
		v, fault := Eval(x.e, x.s, x.at, x.row)
		if fault != x.want || (fault != api.OK) != equal(v, api.Value{}) {
			t.Errorf("Eval of case %d is %v, %d, not %d", i, v, fault, x.want)
		}
	}
}

// TestDeepAggregates has aggregates over the same rows within one another: each is computed once, not for each row of all around it.
func TestDeepAggregates(t *testing.T) {
	s := api.Scene{Loops: []api.Nest{{Name: "l"}, {Name: "m", Loops: []string{"l"}}}, Rows: []api.Rows{{Loop: "l", Numbers: codes(api.MaxCode)}}}
	for i := range 50 {
		s.Rows = append(s.Rows, api.Rows{Loop: "m", Row: []int{1 + i}, Numbers: codes(50)})
	}
	e := rowNumber("l")
	for range 17 {
		e = aggregation(api.OverMost, "l", e)
	}
	if v, fault := Eval(e, s, nil, nil); !equal(v, number(api.MaxCode*unit)) || fault != api.OK {
		t.Error("Eval of deep aggregates", v, fault)
	}
	e = rowNumber("m")
	for range 8 {
		e = aggregation(api.OverMost, "l", aggregation(api.OverMost, "m", e))
	}
	if v, fault := Eval(e, s, nil, nil); !equal(v, number(50*unit)) || fault != api.OK {
		t.Error("Eval of deep aggregates of two loops", v, fault)
	}
}
