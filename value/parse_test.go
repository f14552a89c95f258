package value

import (
	"strings"
	"testing"

	"canvass/api"
)

func op(op int, args ...api.Expr) api.Expr { return operation(op, args...) }

func ones(n int) api.Expr { return constant(number(n * unit)) }

func TestParse(t *testing.T) {
	a, b, c := cell("a"), cell("b"), cell("c")
	for _, x := range []struct {
		text string
		want api.Expr
	}{
		// Rows 1 to 3.
		{"a or b", op(api.OpOr, a, b)}, {"a or b or c", op(api.OpOr, a, b, c)}, {"(a or b) or c", op(api.OpOr, op(api.OpOr, a, b), c)}, {"a and b and c", op(api.OpAnd, a, b, c)}, {"a and (b and c)", op(api.OpAnd, a, op(api.OpAnd, b, c))},
		{"a or b and c", op(api.OpOr, a, op(api.OpAnd, b, c))}, {"a and b or c", op(api.OpOr, op(api.OpAnd, a, b), c)}, {"(a or b) and c", op(api.OpAnd, op(api.OpOr, a, b), c)},
		{"not a", op(api.OpNot, a)}, {"not not a", op(api.OpNot, op(api.OpNot, a))}, {"not a and b", op(api.OpAnd, op(api.OpNot, a), b)}, {"not a = b", op(api.OpNot, op(api.OpEqual, a, b))}, {"(not a) = b", op(api.OpEqual, op(api.OpNot, a), b)}, {"not a = 1 and b", op(api.OpAnd, op(api.OpNot, op(api.OpEqual, a, ones(1))), b)},
		// Row 4.
		{"a = b", op(api.OpEqual, a, b)}, {"a <> b", op(api.OpUnequal, a, b)}, {"a < b", op(api.OpLess, a, b)}, {"a <= b", op(api.OpAtMost, a, b)}, {"a > b", op(api.OpGreater, a, b)}, {"a >= b", op(api.OpAtLeast, a, b)}, {"a in b", op(api.OpIn, a, b)}, {"a has b", op(api.OpHas, a, b)}, {"(a = b) = c", op(api.OpEqual, op(api.OpEqual, a, b), c)}, {"a + b < b * c", op(api.OpLess, op(api.OpAdd, a, b), op(api.OpMul, b, c))},
		// Rows 5 to 7.
		{"a + b - c", op(api.OpSub, op(api.OpAdd, a, b), c)}, {"a - b + c", op(api.OpAdd, op(api.OpSub, a, b), c)}, {"a - (b - c)", op(api.OpSub, a, op(api.OpSub, b, c))}, {"a + b * c", op(api.OpAdd, a, op(api.OpMul, b, c))}, {"a * b / c mod a", op(api.OpMod, op(api.OpDiv, op(api.OpMul, a, b), c), a)}, {"a * (b / c)", op(api.OpMul, a, op(api.OpDiv, b, c))},
		{"-a", op(api.OpNeg, a)}, {"--a", op(api.OpNeg, op(api.OpNeg, a))}, {"-a * b", op(api.OpMul, op(api.OpNeg, a), b)}, {"a * -b", op(api.OpMul, a, op(api.OpNeg, b))}, {"-a - b", op(api.OpSub, op(api.OpNeg, a), b)}, {"-(a - b)", op(api.OpNeg, op(api.OpSub, a, b))},
		// Minus and Numbers.
		{"-1", ones(-1)}, {"- 1", op(api.OpNeg, ones(1))}, {"-(1)", op(api.OpNeg, ones(1))}, {"--1", op(api.OpNeg, ones(-1))}, {"- -1", op(api.OpNeg, ones(-1))}, {"-- 1", op(api.OpNeg, op(api.OpNeg, ones(1)))}, {"a -1", op(api.OpSub, a, ones(1))}, {"a - 1", op(api.OpSub, a, ones(1))}, {"a-1", op(api.OpSub, a, ones(1))}, {"a--1", op(api.OpSub, a, ones(-1))}, {"a - -1", op(api.OpSub, a, ones(-1))}, {"a---1", op(api.OpSub, a, op(api.OpNeg, ones(-1)))}, {"a * -1", op(api.OpMul, a, ones(-1))}, {"1-1", op(api.OpSub, ones(1), ones(1))}, {"(a)-1", op(api.OpSub, a, ones(1))}, {"(-1)", ones(-1)}, {"not -1", op(api.OpNot, ones(-1))}, {"a = -1", op(api.OpEqual, a, ones(-1))}, {"a mod-1", op(api.OpMod, a, ones(-1))}, {"max(-1,-1)", op(api.OpMost, ones(-1), ones(-1))}, {"-0.5", constant(number(-5000))}, {"-1 * a", op(api.OpMul, ones(-1), a)}, {"abs(a)-1", op(api.OpSub, op(api.OpAbs, a), ones(1))},
		// Constants.
		{"12.5", constant(number(125000))}, {"99999999999.9999", constant(number(api.MaxNumber))}, {"-99999999999.9999", constant(number(-api.MaxNumber))}, {"''", constant(text(""))}, {"'it''s'", constant(text("it's"))}, {"''''", constant(text("'"))}, {"'a and )'", constant(text("a and )"))}, {"#7", constant(choice(7))}, {"{}", constant(choices())}, {"{ }", constant(choices())}, {"{#1,#3}", constant(choices(1, 3))}, {"{  #1 ,  #3  }", constant(choices(1, 3))}, {"@2026-11-17", constant(day(20774))}, {"true", constant(boolean(true))}, {"false", constant(boolean(false))},
		// Names that are no words of the language, and those of functions without a bracket.
		{"dontknow", cell("dontknow")}, {"abs", cell("abs")}, {"row", cell("row")}, {"sum + min", op(api.OpAdd, cell("sum"), cell("min"))}, {"option", cell("option")}, {"nota", cell("nota")}, {"and1 or in_", op(api.OpOr, cell("and1"), cell("in_"))},
		// Calls.
		{"row(kids)", rowNumber("kids")}, {"row( kids )", rowNumber("kids")}, {"row(row)", rowNumber("row")}, {"sum(kids: a)", aggregation(api.OverSum, "kids", a)}, {"count(kids:a)", aggregation(api.OverCount, "kids", a)}, {"any(kids : a or b)", aggregation(api.OverAny, "kids", op(api.OpOr, a, b))}, {"all(k: a)", aggregation(api.OverAll, "k", a)}, {"least(k: a)", aggregation(api.OverLeast, "k", a)}, {"most(k: a)", aggregation(api.OverMost, "k", a)}, {"sum(sum: sum)", aggregation(api.OverSum, "sum", cell("sum"))},
		{"answered(a)", op(api.OpAnswered, a)}, {"asked((a))", op(api.OpAsked, a)}, {"reason(a)", op(api.OpReason, a)}, {"abs(a)", op(api.OpAbs, a)}, {"floor(a)", op(api.OpFloor, a)}, {"round(a)", op(api.OpRound, a)}, {"min(a, b)", op(api.OpLeast, a, b)}, {"max(a,b,c)", op(api.OpMost, a, b, c)}, {"if(a or b, b, c)", op(api.OpIf, op(api.OpOr, a, b), b, c)}, {"else(a, b)", op(api.OpElse, a, b)}, {"size(a)", op(api.OpSize, a)}, {"code(a)", op(api.OpCode, a)}, {"lower(a)", op(api.OpLower, a)}, {"join(a, b)", op(api.OpJoin, a, b)}, {"begins(a, b)", op(api.OpBegins, a, b)}, {"holds(a, b)", op(api.OpHolds, a, b)}, {"year(a)", op(api.OpYear, a)}, {"month(a)", op(api.OpMonth, a)}, {"day(a)", op(api.OpDayOf, a)}, {"days(a, b)", op(api.OpDays, a, b)}, {"age(a, b)", op(api.OpAge, a, b)}, {"later(a, b)", op(api.OpLater, a, b)},
		{"abs(abs(a)) = -abs( a )", op(api.OpEqual, op(api.OpAbs, op(api.OpAbs, a)), op(api.OpNeg, op(api.OpAbs, a)))},
		// Blanks.
		{"  a  ", a}, {"a=b", op(api.OpEqual, a, b)}, {"a<>b", op(api.OpUnequal, a, b)}, {"( ( a ) )", a}, {"not(a)and(b)", op(api.OpAnd, op(api.OpNot, a), b)}, {"'x'in{#1}", op(api.OpIn, constant(text("x")), constant(choices(1)))}, {"#1 in a", op(api.OpIn, constant(choice(1)), a)}, {"a<=-1", op(api.OpAtMost, a, ones(-1))},
	} {
		if got, place, fault := Parse(x.text); !same(got, x.want) || place != 0 || fault != api.OK {
			t.Errorf("Parse(%q) is %v, %d, %d", x.text, got, place, fault)
		}
	}
}

// TestMisplacedWords marks with a ^ the word that cannot stand where it stands.
func TestMisplacedWords(t *testing.T) {
	for _, marked := range []string{
		"^", "   ^", "a and^", "a and   ^", "a = b ^= c", "a < b ^<> c", "a in b ^has c", "a ^b", "a ^1", "a ^'x'", "a ^{#1}", "a ^not b", "^and", "^or a", "^in", "^= a", "a = ^not b", "a + ^not b", "-^not a", "a and ^and b", "a + ^* b", "a + ^+ b", "a or ^)", "a^)", "(a^", "(^)", "(^", "((a)^", "a ^, b", "not^", "-^", "a -^", "a^: b", "^, a",
		"a =^= b", "a >^< b", "a =^> b", "a < ^> b", "a ^! b", "a ^& b", "^A", "a^B", "a^.", "^.5", "^_", "a ^_b", "^\x00", "a ^\t b", "a^\n", "^\xc3\xa4", "^\"a\"", "^]", "a ^}", "^;", "a ^. b", "^%",
		// Words that begin like constants, and are none.
		"^1.", "^1.50", "^007", "a = ^00", "^1.2.3", "^1.00005", "^100000000000", "^-0", "^-007", "^-1.", "a * ^-0", "a -^01", "^#", "^#0", "^#01", "^# 1", "^#1000", "a = ^#", "#1^.5", "^@", "^@2023-02-29", "^@2023", "^@2023-01-01-1", "^@2023-01-01-", "^'", "^'a", "a = ^'it''s", "^'''", "^'\n'", "^'" + strings.Repeat("x", 201) + "'", "^{", "^{#1", "^{{#1}", "{#1}^}", "^{#1 #2}", "^{# 1}", "^{#1,}", "^{ , }", "^{#2,#1}", "^{#1,#1}", "^{1}", "^{#1,a}", "^{'}'}",
		// Words that touch the one ahead of them.
		"5^and b", "5 and 5^or b", "1^a", "#1^and b", "#1^in a", "@2023-01-01^and b", "5^mod 3", "a = 5^or b", "-1^and b", "5^_",
		// Calls.
		"f^(1)", "f ^(1)", "abs ^(1)", "a = f^(", "abs(^)", "abs(1^, 2)", "abs(1^", "abs(^", "min(1^)", "min(1,^)", "max(1, 2^", "if(a, b^)", "if(a, b, c^, d)", "else(a^)", "days(a, b^, c)", "if(^, a, b)", "not^", "true^(1)", "1^(2)", "row(^)", "row(^1)", "row(^-1)", "row(kids^: 1)", "row(kids^", "row(^(kids))", "row(^and)", "row(abs^(1))", "row ^(kids)", "sum(^1)", "sum(kids^)", "sum(kids^, a)", "sum(kids:^)", "sum(kids: a^, b)", "sum(kids: a^", "sum(^mod: a)", "sum(^'x': a)", "least(a^, b)", "most(a^, b)", "min(k^: a)", "(a)^(b)", "abs(a)^(b)",
	} {
		place := strings.Index(marked, "^")
		input := marked[:place] + marked[place+1:]
		if e, got, fault := Parse(input); got != place || fault != api.ErrSyntax || !same(e, api.Expr{}) {
			t.Errorf("Parse(%q) is %d at %d, not at %d", input, fault, got, place)
		}
	}
}

// calls returns the text of a call with so many arguments, the last of which is given.
func calls(function string, arguments int, last string) string {
	return function + "(" + strings.Repeat("1,", arguments-1) + last + ")"
}

// TestManyArguments: how many arguments min and max have is no matter of where words can stand (V8, V10).
func TestManyArguments(t *testing.T) {
	for _, function := range []string{"min", "max"} {
		for _, n := range []int{299, 300, 301, 302, 1000} {
			input := calls(function, n, "=")
			if _, place, fault := Parse(input); place != len(input)-2 || fault != api.ErrSyntax {
				t.Errorf("Parse of %s with %d arguments is %d at %d", function, n, fault, place)
			}
		}
	}
}

func TestParseFaults(t *testing.T) {
	fits, tooLong := strings.Repeat(" ", api.MaxLine-1)+"a", strings.Repeat(" ", api.MaxLine)+"a"
	deep := func(n int) string { return strings.Repeat("not ", n) + "a" }
	for _, x := range []struct {
		text string
		want api.Fault
	}{
		{fits, api.OK}, {tooLong, api.ErrLarge}, {tooLong + ")", api.ErrLarge},
		{deep(19), api.OK}, {deep(20), api.ErrLarge}, {strings.Repeat("(", 1000) + "a" + strings.Repeat(")", 1000), api.OK}, {deep(990), api.ErrLarge},
		{strings.Repeat("a or ", 298) + "a", api.OK}, {strings.Repeat("a or ", 299) + "a", api.ErrLarge},
		{calls("min", 299, "1"), api.OK}, {calls("min", 300, "1"), api.ErrLarge}, {calls("min", 301, "1"), api.ErrLarge}, {calls("min", 1900, "1"), api.ErrLarge}, {calls("max", 299, "1"), api.OK}, {calls("max", 300, "1"), api.ErrLarge}, {calls("max", 301, "1"), api.ErrLarge}, {"a + " + calls("max", 301, "1"), api.ErrLarge}, {strings.Repeat("a and ", 301) + "a", api.ErrLarge},
		{"abcdefghijklmnop", api.OK}, {"abcdefghijklmnopq", api.ErrName}, {"row(abcdefghijklmnopq)", api.ErrName}, {"sum(abcdefghijklmnopq: 1)", api.ErrName}, {"abcdefghijklmnopq + answered(1)", api.ErrName},
		{"answered(1)", api.ErrForm}, {"asked(a + b)", api.ErrForm}, {"reason(row(a))", api.ErrForm}, {"answered(1) + abcdefghijklmnopq", api.ErrForm},
	} {
		if e, place, fault := Parse(x.text); place != 0 || fault != x.want || fault != api.OK && !same(e, api.Expr{}) {
			t.Errorf("Parse(%.30q) is %d at %d, not %d", x.text, fault, place, x.want)
		}
	}
	if _, place, fault := Parse(strings.Repeat("(", api.MaxLine)); place != api.MaxLine || fault != api.ErrSyntax {
		t.Error("Parse of brackets", place, fault)
	}
}
