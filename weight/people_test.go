package weight

import (
	"fmt"
	"strings"
	"testing"

	"canvass/api"
)

// repeated returns a margin with equal totals.
func repeated(name, total string, count int) string {
	return name + strings.Repeat(" "+total, count)
}

// TestCheckMargins holds margins at the bounds of W2, and those a bit beyond.
func TestCheckMargins(t *testing.T) {
	for _, x := range []struct {
		what, margins string
		want          api.Fault
	}{
		{"no margins", "", api.OK},
		{"one cell", "m 1", api.OK},
		{"two margins with the same sum", "m 1/3 2/3, n 1/2 1/4 1/4", api.OK},
		{"8 margins", "a 1,b 1,c 1,d 1,e 1,f 1,g 1,h 1", api.OK},
		{"9 margins", "a 1,b 1,c 1,d 1,e 1,f 1,g 1,h 1,i 1", api.ErrLarge},
		{"a long name", "abcdefghijklm_16 1", api.OK},
		{"a name that is too long", "abcdefghijklmn_17 1", api.ErrName},
		{"a name with a great letter", "M 1", api.ErrName},
		{"a reserved name", "has 1", api.ErrName},
		{"a name that begins with a digit", "1m 1", api.ErrName},
		{"a name twice", "m 1, n 1, m 1", api.ErrTwice},
		{"no totals", "m", api.ErrNone},
		{"40 cells", repeated("m", "1", 40), api.OK},
		{"41 cells", repeated("m", "1", 41), api.ErrLarge},
		{"totals that are 0", "m 0 0, n 0", api.OK},
		{"a total below 0", "m 1 -1/2", api.ErrRange},
		{"a sum that is not the same", "m 1 1, n 1", api.ErrConflict},
		{"a third sum that is not the same", "m 1 1, n 2, o 1/2 1/2 1/2", api.ErrConflict},
		{"sums that differ a bit", "m 999999999999, n 999999999998 999999999998/999999999999", api.ErrConflict},
		{"long totals with the same sum", "m 1/999999999989 999999999988/999999999989, n 1/999999999961 999999999960/999999999961", api.OK},
		{"another sum, and later an error of a margin", "m 1, n 2, o -1", api.ErrRange},
		{"another sum, and later a name that is none", "m 1, n 2, O 1", api.ErrName},
		{"each margin for all of its errors", "m -1, M 1", api.ErrRange},
		{"each margin for all of its errors", "m, m", api.ErrNone},
		{"each total for all of its errors", "m -1 2/4", api.ErrRange},
		{"each total for all of its errors", "m 2/4 -1", api.ErrForm},
	} {
		refuses(t, x.what, x.want, CheckMargins(marginsIn(t, x.margins)))
	}
	nameless := []api.Margin{{Totals: []api.Ratio{parts("1")}}}
	refuses(t, "no name", api.ErrName, CheckMargins(nameless))
	for _, x := range unshort {
		m := marginsIn(t, "m 1 1 1, n 1 1 1")
		m[1].Totals[1] = x.r
		refuses(t, "Total "+show(x.r), x.want, CheckMargins(m))
	}
	for _, total := range longest {
		refuses(t, "Total "+total, api.OK, CheckMargins(marginsIn(t, "m "+total+", n "+total)))
	}
}

// TestMarginFaults holds the order of the errors of margins.
func TestMarginFaults(t *testing.T) {
	type margins = []api.Margin
	climb(t, func() margins { return marginsIn(t, "a 1 2, b 3, c 1 1 1") }, CheckMargins, []rung[margins]{
		{"9 margins", func(x *margins) { *x = append(*x, make(margins, 6)...) }, api.ErrLarge},
		{"no name", func(x *margins) { (*x)[1].Name = "B" }, api.ErrName},
		{"a name twice", func(x *margins) { (*x)[1].Name = "a" }, api.ErrTwice},
		{"no totals", func(x *margins) { (*x)[1].Totals = nil }, api.ErrNone},
		{"too many totals", func(x *margins) { (*x)[1].Totals = make([]api.Ratio, 41) }, api.ErrLarge},
		{"a total without a form", func(x *margins) { (*x)[1].Totals = []api.Ratio{parts("6/2")} }, api.ErrForm},
		{"a long total", func(x *margins) { (*x)[1].Totals = []api.Ratio{parts("-3000000000000")} }, api.ErrLarge},
		{"a total below 0", func(x *margins) { (*x)[1].Totals = []api.Ratio{parts("-3")} }, api.ErrRange},
		{"an error of the next margin", func(x *margins) { (*x)[2].Name = "a" }, api.ErrTwice},
		{"another sum", func(x *margins) { (*x)[2].Totals = []api.Ratio{parts("4")} }, api.ErrConflict},
	})
}

// asked is arguments of CheckPeople.
type asked struct {
	m []api.Margin
	l []api.Person
}

// eachOfPeople calls do with each function that takes people alone, as a function that tells the fault, for people with one part each.
func eachOfPeople(do func(what string, call func(l []api.Person) api.Fault)) {
	do("Respond", func(l []api.Person) api.Fault {
		answered := make([]bool, len(l))
		for i := range answered {
			answered[i] = true
		}
		_, fault := Respond(l, answered)
		return fault
	})
	do("Trim", func(l []api.Person) api.Fault { _, _, fault := Trim(l, parts("2")); return fault })
	do("SpreadOf", func(l []api.Person) api.Fault { _, fault := SpreadOf(l); return fault })
	do("Replicates", func(l []api.Person) api.Fault { _, fault := Replicates(l); return fault })
	do("Total", func(l []api.Person) api.Fault { _, fault := Total(l, make([]int, len(l))); return fault })
	do("Mean", func(l []api.Person) api.Fault { _, fault := Mean(l, make([]int, len(l))); return fault })
	do("TotalVariance", func(l []api.Person) api.Fault { _, fault := TotalVariance(l, make([]int, len(l))); return fault })
	do("MeanVariance", func(l []api.Person) api.Fault { _, fault := MeanVariance(l, make([]int, len(l))); return fault })
}

// eachOfMargins does likewise with each function that takes margins and people.
func eachOfMargins(do func(what string, call func(m []api.Margin, l []api.Person) api.Fault)) {
	do("CheckPeople", CheckPeople)
	do("Sums", func(m []api.Margin, l []api.Person) api.Fault { _, fault := Sums(m, l); return fault })
	do("Post", func(m []api.Margin, l []api.Person) api.Fault { _, fault := Post(m, l, 0); return fault })
	do("Rake", func(m []api.Margin, l []api.Person) api.Fault {
		_, fault := Rake(m, l, api.Raking{Places: 2, Rounds: 1, Distance: parts("0")})
		return fault
	})
}

// TestPeopleFaults holds the errors of people that all functions share, and their order (W2).
func TestPeopleFaults(t *testing.T) {
	type people = []api.Person
	first := []rung[people]{
		{"too many people", func(x *people) { *x = append(*x, manyPeople(2998)...) }, api.ErrLarge},
		{"a weight without a form", func(x *people) { (*x)[1].Weight = parts("2/4") }, api.ErrForm},
		{"a long weight", func(x *people) { (*x)[1].Weight = parts("-1000000000000") }, api.ErrLarge},
		{"a weight below 0", func(x *people) { (*x)[1].Weight = parts("-1") }, api.ErrRange},
		{"too many cells", func(x *people) { (*x)[1].Cells = []int{-1, 0, 0, 0, 0, 0, 0, 0, 0} }, api.ErrForm},
		{"a cell below 0", func(x *people) { (*x)[1].Cells = []int{1, -1} }, api.ErrRange},
		{"a great cell", func(x *people) { (*x)[1].Cells = []int{1, 40} }, api.ErrRange},
	}
	last := []rung[people]{
		{"a Class below 0", func(x *people) { (*x)[1].Class = -1 }, api.ErrRange},
		{"a great Class", func(x *people) { (*x)[1].Class = 201 }, api.ErrRange},
		{"a Layer below 0", func(x *people) { (*x)[1].Layer = -1 }, api.ErrRange},
		{"a great Layer", func(x *people) { (*x)[1].Layer = 1 << 62 }, api.ErrRange},
		{"a Part below 0", func(x *people) { (*x)[1].Part = -1 << 63 }, api.ErrRange},
		{"a great Part", func(x *people) { (*x)[1].Part = 201 }, api.ErrRange},
		{"an error of the next one", func(x *people) { (*x)[2].Weight = parts("1/0") }, api.ErrForm},
	}
	base := func() people {
		return peopleIn(t, "1 0.1 0 0 0, 999999999999/2 1.2 200 200 200, 1/999999999999 1.0 7 8 9")
	}
	eachOfPeople(func(what string, call func(l []api.Person) api.Fault) {
		climb(t, base, call, append(append([]rung[people]{}, first...), last...))
	})
	eachOfMargins(func(what string, call func(m []api.Margin, l []api.Person) api.Fault) {
		check := func(l people) api.Fault { return call(marginsIn(t, "a 1 2, b 1 1 1"), l) }
		own := []rung[people]{
			{"a cell too few", func(x *people) { (*x)[1].Cells = []int{-1} }, api.ErrForm},
			{"a cell that its margin does not have", func(x *people) { (*x)[1].Cells = []int{2, 0} }, api.ErrRange},
			{"a cell that its margin does not have", func(x *people) { (*x)[1].Cells = []int{0, 3} }, api.ErrRange},
		}
		climb(t, base, check, append(append(append([]rung[people]{}, first...), own...), last...))
		climb(t, func() asked { return asked{marginsIn(t, "a 1 2, b 1 1 1"), base()} }, func(x asked) api.Fault { return call(x.m, x.l) }, []rung[asked]{
			{"margins without a name", func(x *asked) { x.m[0].Name = "" }, api.ErrName},
			{"margins with other sums", func(x *asked) { x.m[0].Totals[0] = parts("5") }, api.ErrConflict},
			{"an error of people", func(x *asked) { x.l[0].Weight = parts("0") }, api.ErrRange},
		})
	})
}

// TestPeopleAtBounds holds what the functions with people take, and what they just do not take (W2).
func TestPeopleAtBounds(t *testing.T) {
	eachOfPeople(func(what string, call func(l []api.Person) api.Fault) {
		for _, x := range unshort {
			l := peopleIn(t, "1,1,1")
			l[1].Weight = x.r
			refuses(t, what+" with "+show(x.r), x.want, call(l))
		}
		for _, text := range longest {
			refuses(t, what+" with "+text, api.OK, call(peopleIn(t, text)))
		}
		refuses(t, what+" with the weight 0", api.ErrRange, call(peopleIn(t, "1,0,1")))
		refuses(t, what+" with 8 cells", api.OK, call(peopleIn(t, "1 39.39.0.0.0.0.0.0")))
		refuses(t, what+" with people in different numbers of cells", api.OK, call(peopleIn(t, "1 39.39, 1 5, 1 -")))
		refuses(t, what+" with 3000 people", api.OK, call(manyPeople(api.MaxPeople)))
		refuses(t, what+" with 3001 people", api.ErrLarge, call(manyPeople(api.MaxPeople+1)))
	})
	eachOfMargins(func(what string, call func(m []api.Margin, l []api.Person) api.Fault) {
		for _, x := range unshort {
			l := peopleIn(t, "1 0, 1 0, 1 0")
			l[1].Weight = x.r
			refuses(t, what+" with "+show(x.r), x.want, call(marginsIn(t, "m 1"), l))
		}
		wide := marginsIn(t, repeated("m", "0", 39)+" 5")
		refuses(t, what+" in the last one of 40 cells", api.OK, call(wide, peopleIn(t, "1 39")))
		refuses(t, what+" in a cell too far", api.ErrRange, call(wide, peopleIn(t, "1 39, 1 40")))
		refuses(t, what+" with too few cells", api.ErrForm, call(wide, peopleIn(t, "1 39, 1 -")))
		refuses(t, what+" with too many cells", api.ErrForm, call(wide, peopleIn(t, "1 39, 1 0.0")))
		refuses(t, what+" in 8 margins", api.OK, call(marginsIn(t, "a 1,b 1,c 1,d 1,e 1,f 1,g 1,h 1"), peopleIn(t, "1 0.0.0.0.0.0.0.0")))
		l := manyPeople(api.MaxPeople + 1)
		for i := range l {
			l[i].Cells = []int{39}
		}
		refuses(t, what+" with 3001 people", api.ErrLarge, call(wide, l))
		refuses(t, what+" with 3000 people", api.OK, call(wide, l[:api.MaxPeople]))
	})
	refuses(t, "CheckPeople without margins", api.OK, CheckPeople(nil, manyPeople(3)))
	refuses(t, "CheckPeople without margins, in a cell", api.ErrForm, CheckPeople(nil, peopleIn(t, "1 0")))
	refuses(t, "CheckPeople of nobody", api.OK, CheckPeople(marginsIn(t, "m 1"), nil))
}

// TestSums holds Sums (W2).
func TestSums(t *testing.T) {
	for _, x := range []struct{ what, margins, people, want string }{
		{"no margins", "", "1,2", "0"},
		{"nobody", "m 1 2, n 3", "", "m[0 0] n[0] 0"},
		{"two margins", "m 1 2 3, n 6", "1/2 2.0, 1/3 0.0, 1/6 2.0, 5 0.0", "m[16/3 0 2/3] n[6] 0"},
		{"one person", "b 0, a 0", "7/3 0.0", "b[7/3] a[7/3] 0"},
	} {
		got, fault := Sums(marginsIn(t, x.margins), peopleIn(t, x.people))
		is(t, x.what, show(got, fault), x.want)
	}
	got, fault := Sums(marginsIn(t, "m 1 2, n 3"), peopleIn(t, "1 0.0, 1/3 0.0"))
	is(t, "all of it", fmt.Sprintf("%+v %d", got, fault), "[{Name:m Totals:[{Num:4 Den:3} {Num:0 Den:1}]} {Name:n Totals:[{Num:4 Den:3}]}] 0")
}
