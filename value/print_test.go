package value

import (
	"strings"
	"testing"

	"canvass/api"
)

// TestPrint has texts that are already as Print writes them.
func TestPrint(t *testing.T) {
	for _, s := range []string{
		"a", "12.5", "-1", "'it''s'", "#1", "{}", "{#1,#3}", "@2026-11-17", "true", "row(kids)",
		"a or b or c", "(a or b) or c", "a or (b or c)", "a and b or c and d", "(a or b) and c", "(a and b) and c", "a and (b and c)", "a or b and c",
		"not a", "not not a", "not (a and b)", "not (a or b)", "not a and b", "not a = b", "(not a) = b", "a = (not b)", "a = (b and c)", "not a or not b",
		"a = b", "a <> b", "a < b", "a <= b", "a > b", "a >= b", "a in {#1}", "a has #1", "(a = b) = c", "a = (b = c)", "a + b = c - d",
		"a + b + c", "a + (b + c)", "a - b - c", "a - (b - c)", "a - b + c", "a - (b + c)", "(a = b) + c", "a * b + c * d", "(a + b) * (c + d)", "a * b * c", "a * (b * c)", "a / b mod c", "a mod (b / c)", "a + b * c", "(a and b) * c",
		"-a", "--a", "-(a + b)", "-(a * b)", "-a * b", "-(1)", "-(0)", "-(12.5)", "--1", "--(1)", "---1", "-#1", "-'x'", "-true", "a - -1", "a - -(1)", "a - -b", "-1 * a", "-1 - -1", "-abs(a)", "(not a) * -(b = c)", "-(not a)",
		"sum(kids: age * row(kids)) / 2", "count(kids: a or b)", "any(k: a)", "all(k: a)", "least(k: a)", "most(k: a) - 1",
		"answered(a)", "asked(a)", "reason(a)", "abs(a)", "floor(a)", "round(a)", "min(a, b)", "max(a, b, c)", "if(a or b, not c, -1)", "else(a, b)", "size(a)", "code(a)", "lower(a)", "join(a, b)", "begins(a, b)", "holds(a, b)", "year(a)", "month(a)", "day(a)", "days(a, b)", "age(a, b)", "later(a, -1)", "abs(a = b)",
	} {
		if got, fault := Print(parsed(t, s)); got != s || fault != api.OK {
			t.Errorf("Print of %q is %q, %d", s, got, fault)
		}
	}
	for _, x := range []struct{ text, want string }{{"- 1", "-(1)"}, {"((a))", "a"}, {"a=(b+c)", "a = b + c"}, {"{ #1 , #2 }", "{#1,#2}"}, {"min( a ,b )", "min(a, b)"}, {"sum(k :a)", "sum(k: a)"}, {"(a * b) + c", "a * b + c"}, {"not(a)", "not a"}, {"(-1) - 2", "-1 - 2"}, {"-(-1)", "--1"}, {"(not a) and (b = c)", "not a and b = c"}} {
		if got, fault := Print(parsed(t, x.text)); got != x.want || fault != api.OK {
			t.Errorf("Print of %q is %q, %d, not %q", x.text, got, fault, x.want)
		}
	}
}

func TestPrintFaults(t *testing.T) {
	// The text of each Text has 402 bytes, and 3 stand between two of them: 3642 bytes in all.
	quotes := constant(text(strings.Repeat("'", api.MaxText)))
	long := quotes
	for range 8 {
		long = op(api.OpAdd, long, quotes)
	}
	for i, x := range []struct {
		e    api.Expr
		want api.Fault
	}{
		{op(api.OpAdd, long, constant(text(strings.Repeat("x", 200)))), api.OK}, {op(api.OpAdd, long, quotes), api.ErrLarge}, {op(api.OpAdd, long, op(api.OpAdd, quotes, api.Expr{})), api.ErrKind},
		{op(api.OpAdd, long, op(api.OpEqual, constant(text(strings.Repeat("x", 200))), constant(text(strings.Repeat("x", 146))))), api.OK}, {op(api.OpAdd, long, op(api.OpEqual, constant(text(strings.Repeat("x", 200))), constant(text(strings.Repeat("x", 147))))), api.ErrLarge},
		{api.Expr{}, api.ErrKind}, {op(api.OpNot), api.ErrForm}, {cell("A"), api.ErrName}, {nested(21), api.ErrLarge}, {constant(special(1)), api.ErrKind}, {op(api.OpAnswered, ones(1)), api.ErrForm},
	} {
		got, fault := Print(x.e)
		if fault != x.want || (fault != api.OK) != (got == "") || len(got) > api.MaxLine {
			t.Errorf("Print of case %d is %.30q, %d, not %d", i, got, fault, x.want)
		}
	}
}

// random makes expressions out of the numbers of a stream.
type random struct{ next func() uint64 }

func (r random) below(n int) int { return int(r.next() % uint64(n)) }

func (r random) expr(levels int) api.Expr {
	if levels <= 1 || r.below(5) == 0 {
		switch r.below(8) {
		case 0:
			return cell("b")
		case 1:
			return constant(number(r.below(30000) - 15000))
		case 2:
			return ones(r.below(3) - 1)
		case 3:
			return rowNumber("kids")
		case 4:
			return constant([]api.Value{text("it's"), choices(1, 3), choices(), choice(1), day(0), boolean(true)}[r.below(6)])
		}
		return cell("a")
	}
	if r.below(8) == 0 {
		return aggregation(1+r.below(api.OverMost), "kids", r.expr(levels-1))
	}
	kind := 1 + r.below(api.OpLater)
	if r.below(3) > 0 {
		kind = []int{api.OpNot, api.OpAnd, api.OpOr, api.OpEqual, api.OpHas, api.OpAdd, api.OpSub, api.OpMul, api.OpMod, api.OpNeg, api.OpNeg}[r.below(11)]
	}
	if isAboutAnswer(kind) {
		return op(kind, cell("a"))
	}
	least, most := argsOf(kind)
	args := make([]api.Expr, least+r.below(min(3, most-least+1)))
	for i := range args {
		args[i] = r.expr(levels - 1)
	}
	return op(kind, args...)
}

// TestPrintParse prints expressions, reads them again, and takes out each pair of brackets: without it, the text means something else, or nothing.
func TestPrintParse(t *testing.T) {
	r := random{stream("expressions")}
	for range 3000 {
		e := r.expr(5)
		shown, fault := Print(e)
		if fault != api.OK {
			continue
		}
		if got, place, fault := Parse(shown); !same(got, e) || place != 0 || fault != api.OK {
			t.Fatalf("Parse(%q) is %v, %d, %d, not %v", shown, got, place, fault, e)
		}
		for _, without := range withoutBrackets(shown) {
			if got, _, fault := Parse(without); fault == api.OK && same(got, e) {
				t.Fatalf("%q means the same as %q", without, shown)
			}
		}
	}
}

// withoutBrackets returns a text once without each pair of brackets that does not belong to a call.
func withoutBrackets(text string) []string {
	var out []string
	var open []int
	quoted := false
	for i := range len(text) {
		switch {
		case text[i] == '\'':
			quoted = !quoted
		case quoted:
		case text[i] == '(':
			open = append(open, i)
		case text[i] == ')':
			from := open[len(open)-1]
			open = open[:len(open)-1]
			if from == 0 || !isWordByte(text[from-1]) {
				out = append(out, text[:from]+text[from+1:i]+text[i+1:])
			}
		}
	}
	return out
}
