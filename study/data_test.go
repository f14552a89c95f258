package study

import (
	"strings"
	"testing"

	"canvass/api"
)

// unshort are ratios that no case can have as its weight, with the fault of each one.
var unshort = []struct {
	r    api.Ratio
	want api.Fault
}{
	{api.Ratio{}, api.ErrForm},
	{parts("1/0"), api.ErrForm},
	{parts("2/4"), api.ErrForm},
	{parts("-0"), api.ErrForm},
	{parts("01"), api.ErrForm},
	{parts("1/-2"), api.ErrForm},
	{parts("1000000000000/10"), api.ErrForm},
	{parts(strings.Repeat("1", 2001)), api.ErrLarge},
	{parts("1/" + strings.Repeat("0", 2001)), api.ErrLarge},
	{parts("1000000000000"), api.ErrLarge},
	{parts("-1000000000000"), api.ErrLarge},
	{parts("1/1000000000000"), api.ErrLarge},
	{parts("0"), api.ErrRange},
	{parts("-1"), api.ErrRange},
	{parts("-1/999999999999"), api.ErrRange},
}

// TestCheckData holds T1.
func TestCheckData(t *testing.T) {
	f := formOf(t, homeLines)
	for _, cases := range [][]string{
		nil,
		{"1 1  "},
		{"999999999 999999999999/999999999998 ~"},
		{"1 1/999999999999 ! sex=#1", "2 1 a"},
		{"3 2/3 s kid.1=4 sex=#2 kids=2 kid.999=1 age=- likes={#3,#5} note='x' why.3.1='it''s'"},
		{"7 1 s age=-1 sex=#9 born='x'", "8 1 s sex=refused"},
		{"1 1 " + strings.Repeat("s", 40)},
	} {
		if fault := CheckData(f, dataOf(t, cases...)); fault != api.OK {
			t.Error(cases, fault)
		}
	}
	many := make([]api.Datum, api.MaxDataCases+1)
	for i := range many {
		many[i] = api.Datum{Id: i + 1, Weight: parts("1")}
	}
	refuses(t, "2000 cases", api.OK, CheckData(f, many[:api.MaxDataCases]))
	refuses(t, "2001 cases", api.ErrLarge, CheckData(f, many))
}

// TestCheckDataFaults holds the errors of T1 and their order.
func TestCheckDataFaults(t *testing.T) {
	f := formOf(t, homeLines)
	for _, x := range unshort {
		l := dataOf(t, "1 1 s")
		l[0].Weight = x.r
		refuses(t, "Weight "+show(x.r), x.want, CheckData(f, l))
	}
	for _, x := range []struct {
		cases string
		want  api.Fault
	}{
		{"0 1 s", api.ErrRange}, {"-1 1 s", api.ErrRange}, {"1000000000 1 s", api.ErrRange},
		{"1 1 s,1 1 s", api.ErrOrder}, {"5 1 s,4 1 s", api.ErrOrder},
		{"1 1 " + strings.Repeat("s", 41), api.ErrLarge}, {"1 1 a\x7f", api.ErrRange},
		{"1 1 s nobody=1", api.ErrName}, {"1 1 s p=1", api.ErrName}, {"1 1 s grown=true", api.ErrName},
		{"1 1 s kid=1", api.ErrForm}, {"1 1 s age.1=1", api.ErrForm}, {"1 1 s why.1=''", api.ErrForm},
		{"1 1 s kid.0=1", api.ErrRange}, {"1 1 s kid.1000=1", api.ErrRange},
		{"1 1 s age=true", api.ErrKind}, {"1 1 s age=1 age=1", api.ErrTwice},
		// Each case for all of its errors before the next one.
		{"1 1 s nobody=1,0 1 s", api.ErrName}, {"0 1 s,1 1 s nobody=1", api.ErrRange}, {"1 0 s,1 1 s", api.ErrRange},
	} {
		l := dataOf(t, strings.Split(x.cases, ",")...)
		refuses(t, x.cases, x.want, CheckData(f, l))
	}
	l := dataOf(t, "1 1 s age=1")
	l[0].Given[0].Value = api.Value{Kind: api.Text, S: strings.Repeat("x", 201)}
	refuses(t, "a value that is not sound", api.ErrLarge, CheckData(f, l))
	type args struct {
		f api.Form
		l []api.Datum
	}
	second := func(change func(d *api.Datum)) func(x *args) { return func(x *args) { change(&x.l[1]) } }
	climb(t, func() args { return args{f, dataOf(t, "3 1 s", "5 1 s")} }, func(x args) api.Fault { return CheckData(x.f, x.l) }, []rung[args]{
		{"the form", func(x *args) { x.f = wrong(f) }, api.ErrRange},
		{"too many", func(x *args) { x.l = append(x.l, make([]api.Datum, api.MaxDataCases)...) }, api.ErrLarge},
		{"Id", second(func(d *api.Datum) { d.Id = 0 }), api.ErrRange},
		{"order", second(func(d *api.Datum) { d.Id = min(d.Id, 3) }), api.ErrOrder},
		{"Weight is no ratio", second(func(d *api.Datum) { d.Weight = parts("2/2") }), api.ErrForm},
		{"Weight below 0", second(func(d *api.Datum) { d.Weight = parts("-1") }), api.ErrRange},
		{"Seed", second(func(d *api.Datum) { d.Seed = strings.Repeat(" ", 41) }), api.ErrLarge},
		{"Given", second(func(d *api.Datum) { d.Given = answers(t, "nobody=1") }), api.ErrName},
	})
	big := "form f 1\nlanguages en\nloop a count 20\n  loop b count 20\n    page p\n" + strings.Repeat("      question q number 0 1\n", 8)
	for _, name := range []string{"q1", "q2", "q3", "q4", "q5", "q6", "q7", "q8"} {
		big = strings.Replace(big, "question q ", "question "+name+" ", 1)
	}
	refuses(t, "a route that is too large", api.ErrLarge, CheckData(formOf(t, big), dataOf(t, "1 1 s")))
}
