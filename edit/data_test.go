package edit

import (
	"fmt"
	"slices"
	"strings"
	"testing"

	"canvass/api"
	"canvass/value"
)

// given reads answers, as `sex=#1` or `age.1.2='x'`.
func given(t *testing.T, texts ...string) []api.Given {
	t.Helper()
	var out []api.Given
	for _, text := range texts {
		key, shown, _ := strings.Cut(text, "=")
		words := strings.Split(key, ".")
		g := api.Given{Key: api.Key{Name: words[0]}}
		for _, word := range words[1:] {
			n := 0
			if _, err := fmt.Sscan(word, &n); err != nil {
				t.Fatal(text, err)
			}
			g.Key.Row = append(g.Key.Row, n)
		}
		v, fault := value.Read(shown)
		if fault != api.OK {
			t.Fatal(text, fault)
		}
		g.Value = v
		out = append(out, g)
	}
	return out
}

// told is the opposite of given.
func told(t *testing.T, l []api.Given) string {
	t.Helper()
	var out []string
	for _, g := range l {
		shown, fault := value.Show(g.Value)
		if fault != api.OK {
			t.Fatal("Show", g, fault)
		}
		key := g.Key.Name
		for _, n := range g.Key.Row {
			key += fmt.Sprint(".", n)
		}
		out = append(out, key+"="+shown)
	}
	return strings.Join(out, " ")
}

func TestRecord(t *testing.T) {
	p := planWith(t, "field sex 1,2", "field job 3,4", "field age 5")
	for _, x := range []struct {
		data []string
		want string
	}{
		{nil, "[0 0 0]"}, {[]string{"sex=#1", "job=#4"}, "[1 4 0]"}, {[]string{"age=#5", "other=#7", "sex=#2"}, "[2 0 5]"},
		// Codes that are none of the field's are told as they are.
		{[]string{"sex=#3", "job=#999"}, "[3 999 0]"},
		// Other kinds, and answers of rows.
		{[]string{"sex=1", "job={#3}", "age='5'"}, "[0 0 0]"}, {[]string{"sex=-", "job=refused", "age=true"}, "[0 0 0]"}, {[]string{"sex=@2026-11-17"}, "[0 0 0]"},
		{[]string{"sex.1=#1", "job=#3", "job.1=#4", "job.1.2=#4"}, "[0 3 0]"}, {[]string{"job.1=#4", "job=#3"}, "[0 3 0]"},
	} {
		record, fault := Record(p, given(t, x.data...))
		is(t, fmt.Sprint("Record ", x.data), show(record, fault), x.want+" 0")
	}
	data := []api.Given{{Key: api.Key{Name: "sex", Row: []int{}}, Value: api.Value{Kind: api.Choice, N: 2}}}
	record, fault := Record(p, data)
	is(t, "an empty Row", show(record, fault), "[2 0 0] 0")
}

func TestChanged(t *testing.T) {
	p := planWith(t, "field sex 1,2", "field job 3,4", "field age 5")
	for _, x := range []struct {
		data   []string
		record []int
		want   string
	}{
		{nil, []int{0, 0, 0}, ""}, {nil, []int{1, 3, 5}, "sex=#1 job=#3 age=#5"}, {[]string{"x=1"}, []int{0, 3, 5}, "x=1 job=#3 age=#5"},
		// At its place; taken out; at the end, in the order of the fields.
		{[]string{"x=1", "job=#3", "y='z'", "sex=#1", "z=-"}, []int{2, 4, 0}, "x=1 job=#4 y='z' sex=#2 z=-"}, {[]string{"x=1", "job=#3", "y='z'", "sex=#1"}, []int{2, 0, 5}, "x=1 y='z' sex=#2 age=#5"}, {[]string{"age=#5", "x=1"}, []int{1, 4, 0}, "x=1 sex=#1 job=#4"}, {[]string{"age=#5"}, []int{0, 0, 0}, ""},
		{[]string{"job=#3", "sex=#1"}, []int{1, 3, 0}, "job=#3 sex=#1"},
		// Answers of other kinds stay where the record has 0, and are replaced where it has a code.
		{[]string{"sex=1.5", "job=refused", "age={#5}"}, []int{0, 0, 0}, "sex=1.5 job=refused age={#5}"}, {[]string{"sex=1.5", "job=refused", "age={#5}", "x=1"}, []int{1, 4, 5}, "sex=#1 job=#4 age=#5 x=1"}, {[]string{"sex=-", "x=1"}, []int{1, 0, 0}, "sex=#1 x=1"},
		// Answers of rows stay.
		{[]string{"sex.1=#1", "job.1.2.3=#3"}, []int{2, 4, 0}, "sex.1=#1 job.1.2.3=#3 sex=#2 job=#4"}, {[]string{"sex.1=#1", "sex=#1", "sex.2=#1"}, []int{0, 0, 0}, "sex.1=#1 sex.2=#1"},
		// Codes that are none of the field's.
		{[]string{"sex=#9"}, []int{9, 999, 0}, "sex=#9 job=#999"}, {[]string{"sex=#9"}, []int{8, 0, 0}, "sex=#8"},
	} {
		data, fault := Changed(p, given(t, x.data...), x.record)
		is(t, fmt.Sprint("Changed ", x.data, x.record), show(told(t, data), fault), show(x.want, 0))
		if record, fault := Record(p, data); !slices.Equal(record, x.record) || fault != api.OK {
			t.Error("Record of Changed", x.data, x.record, record, fault)
		}
	}
	data, fault := Changed(p, []api.Given{{Key: api.Key{Name: "sex", Row: []int{}}, Value: api.Value{Kind: api.Choice, N: 1, Set: []int{}}}}, []int{2, 0, 0})
	is(t, "an empty Row", show(told(t, data), fault), "sex=#2 0")
}

func TestDataFaults(t *testing.T) {
	p := planWith(t, "field sex 1,2", "field job 3,4")
	type changing struct {
		data   []api.Given
		record []int
	}
	base := func() changing { return changing{given(t, "x.1.2.3=1", "sex=#1", "x.1.2=1"), []int{1, 0}} }
	rungs := []rung[changing]{
		{"3001 elements", func(x *changing) { x.data = manyGiven(api.MaxRoute + 1) }, api.ErrLarge},
		{"no name", func(x *changing) { x.data[0].Key.Name = "X" }, api.ErrName},
		{"4 numbers", func(x *changing) { x.data[0].Key.Row = []int{1, 2, 3, 0} }, api.ErrForm},
		{"number 0", func(x *changing) { x.data[0].Key.Row = []int{1, 0} }, api.ErrRange},
		{"a wrong kind", func(x *changing) { x.data[0].Value.Kind = 8 }, api.ErrKind},
		{"a field too many", func(x *changing) { x.data[0].Value.S = "x" }, api.ErrForm},
		{"code 1000", func(x *changing) { x.data[1].Value.N = 1000 }, api.ErrRange},
		{"a key twice", func(x *changing) { x.data[1].Key = x.data[0].Key }, api.ErrTwice},
		{"no name, later", func(x *changing) { x.data[2].Key.Name = "" }, api.ErrName},
		{"number 1000", func(x *changing) { x.data[2].Key.Row = []int{1000} }, api.ErrRange},
		{"a long text", func(x *changing) { x.data[2].Value = api.Value{Kind: api.Text, S: strings.Repeat("x", 201)} }, api.ErrLarge},
		{"a key twice, later", func(x *changing) { x.data[2].Key = api.Key{Name: "sex", Row: []int{}} }, api.ErrTwice},
	}
	climb(t, base, func(x changing) api.Fault {
		record, fault := Record(p, x.data)
		refuses(t, fmt.Sprintf("Record %.200v", x.data), fault, record, fault)
		return fault
	}, rungs)
	climb(t, base, func(x changing) api.Fault {
		data, fault := Changed(p, x.data, x.record)
		refuses(t, fmt.Sprintf("Changed %.200v", x), fault, data, fault)
		return fault
	}, append(rungs,
		rung[changing]{"a record of 3", func(x *changing) { x.record = []int{1, 1, 1000} }, api.ErrForm},
		rung[changing]{"a record with 1000", func(x *changing) { x.record = []int{1, 1000} }, api.ErrRange}))
	if _, fault := Record(p, manyGiven(api.MaxRoute)); fault != api.OK {
		t.Error("3000 elements", fault)
	}
	data, fault := Changed(p, manyGiven(api.MaxRoute), []int{1, 3})
	if len(data) != api.MaxRoute+2 || fault != api.OK {
		t.Error("3000 elements, and 2", len(data), fault)
	}
	// Keys with the same name, and other rows, are others.
	if _, fault := Record(p, given(t, "x=1", "x.1=1", "x.2=1", "x.1.1=1", "x.1.2=1", "x.2.1=1", "x.1.1.1=1", "x.999=1")); fault != api.OK {
		t.Error("other rows", fault)
	}
}

func manyGiven(count int) []api.Given {
	out := make([]api.Given, count)
	for i := range out {
		out[i] = api.Given{Key: api.Key{Name: "x", Row: []int{1 + i/900, 1 + i%900}}}
	}
	return out
}
