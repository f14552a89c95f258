package weight

import (
	"testing"

	"canvass/api"
)

// TestRake holds W5.
func TestRake(t *testing.T) {
	square := "1 0.0, 1 0.1, 1 1.0, 1 1.1"
	for _, x := range []struct {
		what, margins, people string
		places, rounds        int
		distance, want        string
	}{
		{"one margin", "m 10 10", "1 0, 3 1", 2, 5, "0", "[10 10] 1 0 true 0"},
		{"two margins that do not hinder one another", "m 6 2, n 4 4", square, 0, 9, "0", "[3 3 1 1] 1 0 true 0"},
		{"small enough at the beginning", "m 6 2, n 4 4", square, 0, 9, "4", "[1 1 1 1] 0 4 true 0"},
		{"nearly small enough at the beginning", "m 6 2, n 4 4", square, 0, 9, "399/100", "[3 3 1 1] 1 0 true 0"},
		{"weights stay as they are, without rounding", "m 1", "1/3 0, 2/3 0", 0, 9, "0", "[1/3 2/3] 0 0 true 0"},
		{"no rounds", "m 6 2, n 4 4", square, 0, 0, "1", "[1 1 1 1] 0 4 false 0"},
		{"no margins", "", "1/3, 5", 0, 9, "0", "[1/3 5] 0 0 true 0"},
		{"nobody", "m 0 0, n 0", "", 3, 9, "0", "[] 0 0 true 0"},
		{"nobody and no margins", "", "", 3, 9, "0", "[] 0 0 true 0"},
		{"halves go up", "m 1", "1 0, 1 0", 0, 1, "0", "[1 1] 1 1 false 0"},
		{"a second round", "m 1", "1 0, 1 0, 1 0", 0, 2, "0", "[0 0 0] 2 1 false 0"},
		{"what is 0 stays", "m 1", "1 0, 1 0, 1 0", 0, 200, "0", "[0 0 0] 200 1 false 0"},
		{"a small distance", "m 1", "1 0, 1 0, 1 0", 2, 9, "1/100", "[33/100 33/100 33/100] 1 1/100 true 0"},
		{"a smaller distance", "m 1", "1 0, 1 0, 1 0", 2, 9, "1/101", "[33/100 33/100 33/100] 9 1/100 false 0"},
		{"12 places", "m 1", "1 0, 1 0, 1 0", 12, 1, "0", "[333333333333/1000000000000 333333333333/1000000000000 333333333333/1000000000000] 1 1/1000000000000 false 0"},
		{"totals that are parts", "m 2/3 1/3, n 1/2 1/2", square, 4, 1, "0", "[3333/10000 3333/10000 1667/10000 1667/10000] 1 1/15000 false 0"},
		{"a total of 0", "m 0 8, n 4 4", square, 1, 3, "0", "[0 0 4 4] 1 0 true 0"},
		{"a cell of which all weights are 0", "m 0 8, n 4 4", "1 0.0, 1 1.1", 0, 2, "0", "[0 4] 2 4 false 0"},
		{"an empty cell with the total 0", "m 0 8, n 8", "1 1.0", 0, 1, "0", "[8] 1 0 true 0"},
		{"the last margin is met, the first one is not", "m 3 1, n 3 1", "1 0.0, 1 0.1, 1 1.0", 3, 1, "0", "[9/5 1 6/5] 1 1/5 false 0"},
		{"and again", "m 3 1, n 3 1", "1 0.0, 1 0.1, 1 1.0", 3, 2, "0", "[247/125 1 128/125] 2 3/125 false 0"},
		{"the greatest distance can be one of the last cell", "m 1 1 1, n 3", "1 0.0, 1 1.0, 5/2 2.0", 0, 0, "0", "[1 1 5/2] 0 3/2 false 0"},
		{"one margin is enough rounds", "m 5 5", "1 0, 2 0, 3 1", 0, 200, "0", "[2 3 5] 1 0 true 0"},
	} {
		got, fault := Rake(marginsIn(t, x.margins), peopleIn(t, x.people), api.Raking{Places: x.places, Rounds: x.rounds, Distance: parts(x.distance)})
		is(t, x.what, show(got, fault), x.want)
	}
}

// raked is arguments of Rake.
type raked struct {
	m []api.Margin
	l []api.Person
	r api.Raking
}

// TestRakeFaults holds the errors of W5 and their order.
func TestRakeFaults(t *testing.T) {
	base := func() raked {
		return raked{marginsIn(t, "m 6 0 2, n 4 4"), peopleIn(t, "1 0.0, 1 0.1, 1 2.0, 1 2.1"), api.Raking{Places: 3, Rounds: 3, Distance: parts("1/2")}}
	}
	check := func(x raked) api.Fault {
		got, fault := Rake(x.m, x.l, x.r)
		refuses(t, "Rake", fault, got, fault)
		return fault
	}
	climb(t, base, check, []rung[raked]{
		{"margins", func(x *raked) { x.m[0].Name = "1" }, api.ErrName},
		{"people", func(x *raked) { x.l[3].Cells = nil }, api.ErrForm},
		{"Places below 0", func(x *raked) { x.r.Places = -1 }, api.ErrRange},
		{"Rounds below 0", func(x *raked) { x.r.Rounds = -1 }, api.ErrRange},
		{"Distance without a form", func(x *raked) { x.r.Distance = parts("2/4") }, api.ErrForm},
		{"a long Distance", func(x *raked) { x.r.Distance = parts("-1000000000000") }, api.ErrLarge},
		{"a Distance below 0", func(x *raked) { x.r.Distance = parts("-1/2") }, api.ErrRange},
		{"nobody in a cell", func(x *raked) { x.m[0].Totals[1], x.m[0].Totals[0] = parts("1"), parts("5") }, api.ErrZero},
	})
	for _, r := range []api.Raking{{Places: 13, Distance: parts("1")}, {Rounds: 201, Distance: parts("1")}, {Places: 1 << 62, Distance: parts("1/0")}, {Rounds: 1 << 62}} {
		x := base()
		x.r = r
		refuses(t, show("out of range", r), api.ErrRange, check(x))
	}
	for _, r := range []api.Raking{{Places: 12, Rounds: 200, Distance: parts("0")}, {Distance: parts("999999999999")}, {Rounds: 1, Distance: parts("1/999999999999")}} {
		x := base()
		x.r = r
		refuses(t, show("in range", r), api.OK, check(x))
	}
	for _, bad := range unshort {
		x := base()
		x.r.Distance = bad.r
		refuses(t, "Distance "+show(bad.r), bad.want, check(x))
	}
	x := base()
	x.l = nil
	refuses(t, "nobody at all", api.ErrZero, check(x))
}
