package study

import (
	"fmt"
	"slices"
	"strings"
	"testing"

	"canvass/api"
	"canvass/quest"
)

// net returns a net with a title and codes.
func net(title string, codes ...int) api.Net { return api.Net{Title: title, Codes: codes} }

// TestLinesOf holds T2.
func TestLinesOf(t *testing.T) {
	f := formOf(t, homeLines)
	for _, x := range []struct {
		name string
		nets []api.Net
		want string
	}{
		{"sex", nil, "Man: sex = #1; Woman: sex = #2;"},
		{"likes", nil, "Seven: likes has #7; 3: likes has #3; 5: likes has #5; Nine {{of}}: likes has #9;"},
		{"sex", []api.Net{net("all", 1, 2), net("m", 1)}, "Man: sex = #1; Woman: sex = #2; all: sex in {#1,#2}; m: sex in {#1};"},
		{"likes", []api.Net{net("one", 7), net("~ odd", 3, 5, 9)}, "Seven: likes has #7; 3: likes has #3; 5: likes has #5; Nine {{of}}: likes has #9; one: likes has #7; ~ odd: likes has #3 or likes has #5 or likes has #9;"},
	} {
		l, fault := LinesOf(f, x.name, x.nets)
		is(t, x.name, show(l, fault), x.want+" 0")
		refuses(t, x.name+" as a table", api.OK, CheckTable(f, api.Table{Rows: l, Columns: l}))
	}
	// Titles of 80 bytes are titles, longer ones are not.
	f.Lists[0].Options[0].Phrase[0], f.Lists[0].Options[1].Phrase[0] = strings.Repeat("x", 80), strings.Repeat("y", 81)
	l, fault := LinesOf(f, "sex", nil)
	is(t, "long titles", show(l, fault), strings.Repeat("x", 80)+": sex = #1; 2: sex = #2; 0")
	l, fault = LinesOf(f, "sex", []api.Net{net(strings.Repeat("z", 80), 2)})
	is(t, "a net with a long title", show(l[2:], fault), strings.Repeat("z", 80)+": sex in {#2}; 0")
	codes, options := []int{}, ""
	for code := 960; code < 1000; code++ {
		codes, options = append(codes, code), options+fmt.Sprint(" ", code)
	}
	f = short(t, "list l"+options, "question a choice l", "question b choices l 0 40")
	for _, name := range []string{"a", "b"} {
		l, fault := LinesOf(f, name, slices.Repeat([]api.Net{net("all", codes...)}, 20))
		refuses(t, "all options", api.OK, fault)
		is(t, "all options", []any{len(l), l[0].Title, CheckTable(f, api.Table{Rows: l, Columns: l})}, "[60 960 0]")
	}
}

// TestLinesOfFaults holds the errors of T2 and their order.
func TestLinesOfFaults(t *testing.T) {
	f := formOf(t, homeLines)
	check := func(what string, f api.Form, name string, want api.Fault, nets ...api.Net) {
		t.Helper()
		l, fault := LinesOf(f, name, nets)
		refuses(t, what, want, l, fault)
	}
	bad, tooMany := net("", 99), slices.Repeat([]api.Net{net("a", 1)}, 21)
	check("20 nets", f, "sex", api.OK, tooMany[:20]...)
	check("the form comes first", wrong(f), "nobody", api.ErrRange, tooMany...)
	for _, name := range []string{"", "nobody", "p", "row", "grown", "bye", "sexes"} {
		check("no question "+name, f, name, api.ErrName, tooMany...)
	}
	for _, name := range []string{"age", "born", "note", "kid"} {
		check("of another kind "+name, f, name, api.ErrType, tooMany...)
	}
	check("within loops", f, "kind", api.ErrForm, tooMany...)
	check("too many nets", f, "sex", api.ErrLarge, slices.Concat([]api.Net{bad}, tooMany)...)
	for _, x := range []struct {
		what string
		net  api.Net
		want api.Fault
	}{
		{"a long title", net(strings.Repeat("\n", 81)), api.ErrLarge},
		{"an empty title", net(""), api.ErrForm},
		{"a byte below 32", net("a\tb"), api.ErrForm},
		{"a byte above 126", net("a\x7f"), api.ErrForm},
		{"a title beyond ASCII", net("\u00e9"), api.ErrForm},
		{"no codes", net("a"), api.ErrNone},
		{"no option", net("a", 3, 1), api.ErrName},
		{"no option, behind others", net("a", 1, 2, 0), api.ErrName},
		{"codes in another order", net("a", 2, 1, 99), api.ErrOrder},
		{"a code twice", net("a", 1, 1), api.ErrOrder},
	} {
		check(x.what, f, "sex", x.want, net("b", 2), x.net, net(strings.Repeat("x", 81)))
	}
	check("the order of codes, not of options", f, "likes", api.ErrOrder, net("a", 7, 3))
	check("the order of codes, not of options", f, "likes", api.OK, net("a", 3, 7))
}

// TestCheckTable holds T3.
func TestCheckTable(t *testing.T) {
	f := formOf(t, homeLines)
	type args struct {
		f api.Form
		t api.Table
	}
	good := func() args {
		return args{f, api.Table{
			Base: []api.Expr{expr(t, "answered(sex)")}, Of: []api.Expr{expr(t, "age + sum(row: kid)")}, Test: true,
			Rows: linesFrom(t, "a: grown", "b: true"), Columns: linesFrom(t, "c: any(row: kid > 5)", "d: age < 7"),
		}}
	}
	check := func(x args) api.Fault { return CheckTable(x.f, x.t) }
	long := strings.Repeat("\n", 81)
	climb(t, good, check, []rung[args]{
		{"the form", func(x *args) { x.f = wrong(f) }, api.ErrRange},
		{"two Bases", func(x *args) { x.t.Base = []api.Expr{{}, {}} }, api.ErrForm},
		{"two of Of", func(x *args) { x.t.Of = []api.Expr{{}, {}} }, api.ErrForm},
		{"Base is no expression", func(x *args) { x.t.Base = []api.Expr{{Kind: 9}} }, api.ErrKind},
		{"no Rows", func(x *args) { x.t.Rows = nil }, api.ErrNone},
		{"no Columns", func(x *args) { x.t.Columns = nil }, api.ErrNone},
		{"many Rows", func(x *args) { x.t.Rows = slices.Repeat(x.t.Rows, 31) }, api.ErrLarge},
		{"many Columns", func(x *args) { x.t.Columns = slices.Repeat(x.t.Columns, 31) }, api.ErrLarge},
		{"the title of a row", func(x *args) { x.t.Rows[0].Title = long }, api.ErrLarge},
		{"the condition of a row", func(x *args) { x.t.Rows[0].If = expr(t, "kid > 1") }, api.ErrName},
		{"the title of the next row", func(x *args) { x.t.Rows[1].Title = "" }, api.ErrForm},
		{"the condition of the next row", func(x *args) { x.t.Rows[1].If = expr(t, "age") }, api.ErrType},
		{"the title of a column", func(x *args) { x.t.Columns[0].Title = long }, api.ErrLarge},
		{"the condition of a column", func(x *args) { x.t.Columns[0].If = api.Expr{Kind: api.XConst} }, api.ErrKind},
		{"the title of the next column", func(x *args) { x.t.Columns[1].Title = "a\n" }, api.ErrForm},
		{"the condition of the next column", func(x *args) { x.t.Columns[1].If = expr(t, "row(row) = 1") }, api.ErrName},
		{"Of", func(x *args) { x.t.Of = []api.Expr{expr(t, "sex")} }, api.ErrType},
	})
	for text, want := range map[string]api.Fault{"sex": api.ErrType, "sex = #3": api.OK, "age": api.ErrType, "p": api.ErrName, "kid = 1": api.ErrName, "sex = 1": api.ErrType, "born = @2000-01-01": api.OK, "all(like: any(deep: long > 3))": api.OK, "option = #1": api.ErrName} {
		x := good()
		x.t.Base = []api.Expr{expr(t, text)}
		refuses(t, "Base "+text, want, check(x))
	}
	for text, want := range map[string]api.Fault{"sex = #3": api.ErrType, "age": api.OK, "born": api.ErrType, "kid": api.ErrName, "most(row: kid)": api.OK, "age + note": api.ErrType} {
		x := good()
		x.t.Of = []api.Expr{expr(t, text)}
		refuses(t, "Of "+text, want, check(x))
	}
	x := good()
	x.t.Base, x.t.Of, x.t.Rows, x.t.Columns = nil, nil, slices.Repeat(x.t.Rows, 30), slices.Repeat(x.t.Columns, 30)
	refuses(t, "60 lines of each side", api.OK, check(x))
	if quest.Check(f) != api.OK {
		t.Error("the form")
	}
}
