package field

import (
	"fmt"
	"strings"
	"testing"

	"canvass/api"
	"canvass/interview"
	"canvass/quest"
	"canvass/value"
)

func expr(t *testing.T, text string) api.Expr {
	t.Helper()
	e, place, fault := value.Parse(text)
	if fault != api.OK {
		t.Fatal("Parse", text, place, fault)
	}
	return e
}

// manyQuotas returns quotas with the names c0, c1, ..
func manyQuotas(t *testing.T, n int) []api.Quota {
	t.Helper()
	var out []api.Quota
	for i := range n {
		out = append(out, api.Quota{Name: fmt.Sprint("c", i), If: expr(t, fmt.Sprint("kids = ", i)), Target: i})
	}
	return out
}

// wrongPlans are plans with their errors, each with others that come later (L1).
func wrongPlans(t *testing.T) []struct {
	p    api.Plan
	want api.Fault
} {
	f := workPlan(t).Form
	wrong := f
	wrong.Version = 0
	many := manyQuotas(t, api.MaxCells+1)
	many[0].Name = "A"
	ok := api.Quota{Name: "a", If: expr(t, "true"), Target: 1}
	bad := api.Expr{Kind: 9}
	with := func(l ...api.Quota) api.Plan { return api.Plan{Form: f, Quotas: l} }
	return []struct {
		p    api.Plan
		want api.Fault
	}{
		{api.Plan{}, api.ErrName},
		{api.Plan{Form: wrong, Quotas: many}, api.ErrRange},
		{with(many...), api.ErrLarge},
		{with(api.Quota{If: bad, Target: -1}), api.ErrName}, {with(ok, api.Quota{Name: "or", If: bad}), api.ErrName}, {with(api.Quota{Name: strings.Repeat("x", api.MaxName+1)}), api.ErrName},
		{with(ok, api.Quota{Name: "b", If: ok.If}, api.Quota{Name: "a", If: bad, Target: -1}), api.ErrTwice},
		{with(api.Quota{Name: "a", If: bad, Target: -1}), api.ErrKind}, {with(api.Quota{Name: "a", Target: -1}), api.ErrKind},
		{with(api.Quota{Name: "a", If: api.Expr{Kind: api.XAnswer, Name: "sex", Op: 1}, Target: -1}), api.ErrForm},
		{with(api.Quota{Name: "a", If: expr(t, "nobody = 1"), Target: -1}), api.ErrName}, {with(api.Quota{Name: "a", If: expr(t, "option = #1")}), api.ErrName},
		// Within loops there is nothing that a quota could name.
		{with(api.Quota{Name: "a", If: expr(t, "age = 1"), Target: -1}), api.ErrName}, {with(api.Quota{Name: "a", If: expr(t, "row(row) = 1")}), api.ErrName},
		{with(api.Quota{Name: "a", If: expr(t, "sex = 1"), Target: -1}), api.ErrType}, {with(api.Quota{Name: "a", If: expr(t, "kids"), Target: -1}), api.ErrType}, {with(api.Quota{Name: "a", If: expr(t, "sex"), Target: -1}), api.ErrType},
		{with(api.Quota{Name: "a", If: ok.If, Target: -1}), api.ErrRange}, {with(api.Quota{Name: "a", If: ok.If, Target: api.MaxTarget + 1}), api.ErrRange},
		// One quota after the other.
		{with(api.Quota{Name: "a", If: ok.If, Target: -1}, api.Quota{}), api.ErrRange}, {with(ok, ok, api.Quota{}), api.ErrTwice}, {with(ok, api.Quota{Name: "b", If: expr(t, "kids"), Target: 1}, api.Quota{Name: "A"}), api.ErrType},
	}
}

// TestWrongPlans holds the errors of plans, which all functions with a plan have first (L1).
func TestWrongPlans(t *testing.T) {
	sound, crooked := []api.Event{{}}, []api.Given{{}}
	for n, x := range wrongPlans(t) {
		if fault := CheckPlan(x.p); fault != x.want {
			t.Error(n, "CheckPlan", fault, "not", x.want)
		}
		if cell, fault := CellOf(x.p, " ", crooked); fault != x.want || cell != 0 {
			t.Error(n, "CellOf", cell, fault, "not", x.want)
		}
		if fault := CheckEvents(x.p, sound); fault != x.want {
			t.Error(n, "CheckEvents", fault, "not", x.want)
		}
		if l, fault := Join(x.p, sound, sound); fault != x.want || len(l) > 0 {
			t.Error(n, "Join", fault, "not", x.want)
		}
		if s, fault := StateOf(x.p, sound); fault != x.want || len(s.Cases)+len(s.Permits)+len(s.Filled)+s.Refused > 0 {
			t.Error(n, "StateOf", fault, "not", x.want)
		}
		if d, fault := New(x.p, -1); fault != x.want || d != nil {
			t.Error(n, "New", fault, "not", x.want)
		}
		if d, fault := Restore(x.p, -1, sound); fault != x.want || d != nil {
			t.Error(n, "Restore", fault, "not", x.want)
		}
	}
}

// TestPlans holds plans that are right (L1).
func TestPlans(t *testing.T) {
	f := workPlan(t).Form
	for _, l := range [][]api.Quota{
		nil, {}, manyQuotas(t, api.MaxCells),
		{{Name: "a", If: expr(t, "any(row: age > row(row)) or old > 9 or answered(kids)"), Target: 0}, {Name: "b", If: expr(t, "asked(sex)"), Target: api.MaxTarget}},
		{{Name: "work", If: expr(t, "true")}, {Name: "sex", If: expr(t, "true")}, {Name: "option", If: expr(t, "false")}},
	} {
		if fault := CheckPlan(api.Plan{Form: f, Quotas: l}); fault != api.OK {
			t.Error("CheckPlan", l, fault)
		}
	}
	if fault := CheckPlan(api.Plan{Form: api.Form{Name: "f", Version: 1, Languages: []string{"en"}}}); fault != api.OK {
		t.Error("CheckPlan of an empty form", fault)
	}
}

// TestCellOf holds that the first cell whose If is true counts, in the scene behind the route (L2).
func TestCellOf(t *testing.T) {
	p := workPlan(t)
	for text, want := range map[string]int{
		"":                        -1,
		"sex=#1":                  0,
		"sex=#3":                  -1, // is not offered
		"sex=refused":             -1,
		"sex=-":                   -1,
		"sex='x'":                 -1,
		"sex=#2":                  2,
		"sex=#2 kids=1":           2,
		"sex=#2 kids=1 age.1=17":  1,
		"age.1=17 kids=1 sex=#2":  1,
		"sex=#2 kids=1 age.1=18":  2,
		"sex=#2 kids=2 age.2=0":   1,
		"sex=#2 kids=1 age.2=0":   2, // beside
		"sex=#1 kids=2 age.2=0":   0, // beside
		"sex=#2 kids=9 age.9=0":   1, // a check that is not met matters nothing
		"sex=#2 kids=10 age.10=0": 2, // is not accepted
	} {
		if cell, fault := CellOf(p, "s", answers(t, strings.Fields(text)...)); cell != want || fault != api.OK {
			t.Error("CellOf", text, cell, fault, "not", want)
		}
	}
	p.Quotas = nil
	if cell, fault := CellOf(p, "s", answers(t, "sex=#1")); cell != -1 || fault != api.OK {
		t.Error("CellOf without quotas", cell, fault)
	}
}

// TestCellByChance holds that the order of a block, which the seed gives, matters for the cell (L2).
func TestCellByChance(t *testing.T) {
	p := planWith(t, "form f 1\nlanguages en\nblock b shuffle\n  page x\n    question q number 0 9\n  end e\n", "asked 1 asked(q)")
	seen := map[int]bool{}
	for n := range 30 {
		seed := fmt.Sprint("s", n)
		route, _ := interview.RouteOf(p.Form, seed, nil)
		want := len(route.Asked) - 1
		cell, fault := CellOf(p, seed, nil)
		if cell != want || fault != api.OK {
			t.Error("CellOf", seed, cell, fault, "not", want)
		}
		seen[cell] = true
	}
	if len(seen) != 2 {
		t.Error("one order alone", seen)
	}
}

// TestCellErrors holds the errors of CellOf, which are those of RouteOf.
func TestCellErrors(t *testing.T) {
	p := workPlan(t)
	crooked := []api.Given{{Key: api.Key{Name: "nobody"}}}
	for _, x := range []struct {
		seed string
		l    []api.Given
		want api.Fault
	}{
		{strings.Repeat(" ", api.MaxSeed+1), crooked, api.ErrLarge}, {"a b", crooked, api.ErrRange}, {"s", crooked, api.ErrName},
		{"s", answers(t, "sex=#1", "sex=#2"), api.ErrTwice}, {"s", answers(t, "age=1"), api.ErrForm}, {"s", answers(t, "sex=true"), api.ErrKind}, {"s", answers(t, "old=1"), api.ErrName}, {"", nil, api.OK},
	} {
		_, want := interview.RouteOf(p.Form, x.seed, x.l)
		cell, fault := CellOf(p, x.seed, x.l)
		if fault != x.want || fault != want || fault != api.OK && cell != 0 {
			t.Error("CellOf", x.seed, x.l, cell, fault, "not", x.want)
		}
	}
	big := bigPlan(t)
	if cell, fault := CellOf(big, "s", answers(t, "n="+allCodes)); cell != 0 || fault != api.ErrLarge {
		t.Error("CellOf of a route that is too large", cell, fault)
	}
	if fault := CheckPlan(big); fault != api.OK {
		t.Error("CheckPlan", fault)
	}
}

const allCodes = "{#1,#2,#3,#4,#5,#6,#7,#8,#9,#10,#11,#12,#13,#14,#15,#16,#17,#18,#19,#20}"

// bigPlan has a form whose route is too large if a question has more than 15 options: it has 2 elements, and 189 for each option.
func bigPlan(t *testing.T) api.Plan {
	t.Helper()
	var b strings.Builder
	b.WriteString("form big 1\nlanguages en\nlist l\n")
	for i := range 20 {
		fmt.Fprintf(&b, "  option %d\n", i+1)
	}
	b.WriteString("page p\n  question n choices l 0 20\n  question k number 0 9\nloop a over n\n  page q\n")
	for i := range 189 {
		fmt.Fprintf(&b, "    question q%d number 0 9\n", i)
	}
	f, line, fault := quest.Read(b.String())
	if fault != api.OK {
		t.Fatal("Read", line, fault)
	}
	return api.Plan{Form: f, Quotas: []api.Quota{{Name: "all", If: expr(t, "k = 1"), Target: 2}}}
}
