package edit

import (
	"fmt"
	"math"
	"testing"

	"canvass/api"
)

func threeFields() api.EditPlan {
	return api.EditPlan{
		Fields: []api.EditField{{Name: "a", Codes: []int{1, 2, 3}, Weight: 1}, {Name: "b", Codes: []int{5, 6}, Weight: 2}, {Name: "c", Codes: []int{1, 999}, Weight: 1000}},
		Edits:  []api.Edit{{Name: "e", Sets: [][]int{{1, 2}, {5}, {1, 999}}}, {Name: "a", Sets: [][]int{{3}, {5, 6}, {999}}}},
	}
}

// spoilPlan is the errors of a plan, in their order (E1).
var spoilPlan = []rung[api.EditPlan]{
	{"no fields", func(p *api.EditPlan) { p.Fields = nil }, api.ErrNone},
	{"13 fields", func(p *api.EditPlan) { p.Fields = manyFields(api.MaxFields+1, 1) }, api.ErrLarge},
	{"no name", func(p *api.EditPlan) { p.Fields[0].Name = "" }, api.ErrName},
	{"no codes", func(p *api.EditPlan) { p.Fields[0].Codes = nil }, api.ErrNone},
	{"21 codes", func(p *api.EditPlan) { p.Fields[0].Codes = upward(api.MaxFieldSet + 1) }, api.ErrLarge},
	{"code 0", func(p *api.EditPlan) { p.Fields[0].Codes[0] = 0 }, api.ErrRange},
	{"codes down", func(p *api.EditPlan) { p.Fields[0].Codes = []int{2, 1, 3} }, api.ErrOrder},
	{"code 1000", func(p *api.EditPlan) { p.Fields[0].Codes[2] = api.MaxCode + 1 }, api.ErrRange},
	{"code twice", func(p *api.EditPlan) { p.Fields[0].Codes = []int{1, 2, 2} }, api.ErrOrder},
	{"weight 0", func(p *api.EditPlan) { p.Fields[0].Weight = 0 }, api.ErrRange},
	{"a word that is no name", func(p *api.EditPlan) { p.Fields[1].Name = "has" }, api.ErrName},
	{"name twice", func(p *api.EditPlan) { p.Fields[1].Name = p.Fields[0].Name }, api.ErrTwice},
	{"no codes, later", func(p *api.EditPlan) { p.Fields[1].Codes = []int{} }, api.ErrNone},
	{"weight 1001", func(p *api.EditPlan) { p.Fields[2].Weight = api.MaxWeight + 1 }, api.ErrRange},
	{"too many mixes", func(p *api.EditPlan) { p.Fields = append(p.Fields, manyFields(4, 20)...) }, api.ErrLarge},
	{"61 edits", func(p *api.EditPlan) { p.Edits = append(p.Edits, make([]api.Edit, api.MaxEdits-1)...) }, api.ErrLarge},
	{"no name of an edit", func(p *api.EditPlan) { p.Edits[0].Name = "E" }, api.ErrName},
	{"too few sets", func(p *api.EditPlan) { p.Edits[0].Sets = p.Edits[0].Sets[:2] }, api.ErrForm},
	{"an empty set", func(p *api.EditPlan) { p.Edits[0].Sets[0] = nil }, api.ErrNone},
	{"no code of the field", func(p *api.EditPlan) { p.Edits[0].Sets[0] = []int{2, 5} }, api.ErrRange},
	{"a set down", func(p *api.EditPlan) { p.Edits[0].Sets[0] = []int{2, 1, 5} }, api.ErrOrder},
	{"a code of another field", func(p *api.EditPlan) { p.Edits[0].Sets[1] = []int{1} }, api.ErrRange},
	{"a set with a code twice", func(p *api.EditPlan) { p.Edits[0].Sets[2] = []int{1, 1} }, api.ErrOrder},
	{"name of an edit twice", func(p *api.EditPlan) { p.Edits[1].Name = p.Edits[0].Name }, api.ErrTwice},
	{"too many sets", func(p *api.EditPlan) { p.Edits[1].Sets = append(p.Edits[1].Sets, []int{1}) }, api.ErrForm},
}

// manyFields returns fields with the codes 1, 2, .., so many each.
func manyFields(count, codes int) []api.EditField {
	out := make([]api.EditField, count)
	for i := range out {
		out[i] = api.EditField{Name: fmt.Sprint("m", i), Codes: upward(codes), Weight: 1}
	}
	return out
}

func TestCheckPlan(t *testing.T) {
	climb(t, threeFields, CheckPlan, spoilPlan)
}

func TestPlanBounds(t *testing.T) {
	sized := func(sizes ...int) api.EditPlan {
		p := api.EditPlan{Fields: manyFields(len(sizes), 1)}
		for i, n := range sizes {
			p.Fields[i].Codes = upward(n)
		}
		return p
	}
	edits := func(count int) api.EditPlan {
		p := sized(2)
		for n := range count {
			p.Edits = append(p.Edits, api.Edit{Name: fmt.Sprint("e", n), Sets: [][]int{{1, 2}}})
		}
		return p
	}
	far := sized(2)
	far.Fields[0].Codes = []int{math.MinInt, math.MaxInt}
	for _, x := range []struct {
		what string
		p    api.EditPlan
		want api.Fault
	}{
		{"one field", sized(1), api.OK}, {"12 fields", sized(2, 2, 2, 2, 2, 2, 2, 2, 2, 2, 2, 2), api.OK}, {"20 codes", sized(20), api.OK},
		{"20000 mixes", sized(20, 20, 10, 5), api.OK}, {"20480 mixes", sized(20, 16, 16, 2, 2), api.ErrLarge}, {"20007 mixes", sized(19, 13, 9, 9), api.ErrLarge}, {"19968 mixes", sized(13, 16, 8, 12), api.OK}, {"20 to the 12", sized(20, 20, 20, 20, 20, 20, 20, 20, 20, 20, 20, 20), api.ErrLarge},
		{"60 edits", edits(60), api.OK}, {"61 edits", edits(61), api.ErrLarge},
		{"codes far away", far, api.ErrRange},
	} {
		if fault := CheckPlan(x.p); fault != x.want {
			t.Errorf("%s: fault %d, not %d", x.what, fault, x.want)
		}
	}
	// The greatest names, codes and weights.
	p := api.EditPlan{Fields: []api.EditField{{Name: "abcdefghij_12345", Codes: []int{1, 999}, Weight: 1000}}, Edits: []api.Edit{{Name: "abcdefghij_12345", Sets: [][]int{{999}}}}}
	if fault := CheckPlan(p); fault != api.OK {
		t.Error("greatest", fault)
	}
	p.Fields[0].Name += "6"
	if fault := CheckPlan(p); fault != api.ErrName {
		t.Error("17 bytes of a name", fault)
	}
}

// withPlan calls each function with a plan, and otherwise wrong arguments.
func withPlan(t *testing.T, what string, p api.EditPlan, want api.Fault) {
	t.Helper()
	bad, long := []int{-1}, string(make([]byte, 101))
	data := []api.Given{{}}
	refuses(t, what+": CheckPlan", want, CheckPlan(p))
	text, fault := Text(p)
	refuses(t, what+": Text", want, text, fault)
	fails, fault := Fails(p, bad)
	refuses(t, what+": Fails", want, fails, fault)
	passes, fault := Passes(p, bad)
	refuses(t, what+": Passes", want, passes, fault)
	first, is, fault := First(p, bad, bad)
	refuses(t, what+": First", want, first, is, fault)
	primes, fault := Primes(p)
	refuses(t, what+": Primes", want, primes, fault)
	redundant, fault := Redundant(p)
	refuses(t, what+": Redundant", want, redundant, fault)
	clash, is, fault := Clash(p)
	refuses(t, what+": Clash", want, clash, is, fault)
	least, fault := Least(p, bad)
	refuses(t, what+": Least", want, least, fault)
	repair, fault := Impute(p, bad, [][]int{bad}, long)
	refuses(t, what+": Impute", want, repair, fault)
	repairs, fault := Repairs(p, [][]int{bad}, long)
	refuses(t, what+": Repairs", want, repairs, fault)
	report, fault := Report(p, [][]int{bad}, nil)
	refuses(t, what+": Report", want, report, fault)
	record, fault := Record(p, data)
	refuses(t, what+": Record", want, record, fault)
	changed, fault := Changed(p, data, bad)
	refuses(t, what+": Changed", want, changed, fault)
}

// TestPlanFirst holds that all functions with a plan return the error of CheckPlan ahead of all others.
func TestPlanFirst(t *testing.T) {
	for _, r := range spoilPlan {
		p := threeFields()
		r.spoil(&p)
		withPlan(t, r.what, p, r.want)
	}
}

// TestRecordFaults holds the errors of records (E1), wherever they are taken.
func TestRecordFaults(t *testing.T) {
	p := threeFields()
	good := []int{0, 999, 7}
	for _, x := range []struct {
		record []int
		want   api.Fault
	}{
		{good, api.OK}, {nil, api.ErrForm}, {[]int{1, 5}, api.ErrForm}, {[]int{1, 5, 1, 1}, api.ErrForm}, {[]int{-1, 5}, api.ErrForm},
		{[]int{-1, 5, 1}, api.ErrRange}, {[]int{1, 5, 1000}, api.ErrRange}, {[]int{1, math.MaxInt, 1}, api.ErrRange}, {[]int{math.MinInt, 1, 1}, api.ErrRange},
	} {
		what := fmt.Sprint(x.record)
		fails, fault := Fails(p, x.record)
		refuses(t, what+": Fails", x.want, fails, fault)
		passes, fault := Passes(p, x.record)
		refuses(t, what+": Passes", x.want, passes, fault)
		first, is, fault := First(p, x.record, nil)
		refuses(t, what+": First", x.want, first, is, fault)
		least, fault := Least(p, x.record)
		refuses(t, what+": Least", x.want, least, fault)
		repair, fault := Impute(p, x.record, nil, "")
		refuses(t, what+": Impute", x.want, repair, fault)
		repair, fault = Impute(p, good, [][]int{good, x.record}, "")
		refuses(t, what+": Impute of a donor", x.want, repair, fault)
		repairs, fault := Repairs(p, [][]int{good, x.record}, "")
		refuses(t, what+": Repairs", x.want, repairs, fault)
		changed, fault := Changed(p, nil, x.record)
		refuses(t, what+": Changed", x.want, changed, fault)
		if x.want != api.OK {
			report, fault := Report(p, [][]int{good, x.record}, nil)
			refuses(t, what+": Report", x.want, report, fault)
		}
	}
}
