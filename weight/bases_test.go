package weight

import (
	"testing"

	"canvass/api"
)

// picksOf returns picks with chances.
func picksOf(chances ...string) []api.Pick {
	var out []api.Pick
	for i, chance := range chances {
		out = append(out, api.Pick{Id: i, Chance: parts(chance)})
	}
	return out
}

// TestBases holds W1.
func TestBases(t *testing.T) {
	for _, x := range []struct {
		what string
		l    []api.Pick
		want string
	}{
		{"no units", nil, "[] 0"},
		{"some units", picksOf("2/3", "1", "1/7", "2/3"), "[3/2 1 7 3/2] 0"},
		{"long chances", picksOf("1/999999999999", "999999999998/999999999999"), "[999999999999 999999999999/999999999998] 0"},
		{"equal Ids, or none", []api.Pick{{Id: 7, Chance: parts("1/2")}, {Id: 7, Chance: parts("1/3")}, {Id: -1, Chance: parts("1")}}, "[2 3 1] 0"},
	} {
		got, fault := Bases(x.l)
		is(t, x.what, show(got, fault), x.want)
	}
}

// TestBasesFaults holds the errors of W1 and their order.
func TestBasesFaults(t *testing.T) {
	check := func(what string, l []api.Pick, want api.Fault) {
		t.Helper()
		got, fault := Bases(l)
		refuses(t, what, want, got, fault)
	}
	for _, x := range unshort {
		check("Chance "+show(x.r), append(picksOf("1/2"), api.Pick{Chance: x.r}), x.want)
	}
	for _, chance := range []string{"0", "-1", "-1/2", "2", "3/2", "999999999999", "999999999999/999999999998"} {
		check("Chance "+chance, picksOf("1", chance), api.ErrRange)
	}
	check("each one for all of its errors", picksOf("2", "2/4"), api.ErrRange)
	check("each one for all of its errors", picksOf("2/4", "2"), api.ErrForm)
	many := make([]api.Pick, api.MaxPeople+1)
	check("too many, ahead of their chances", many, api.ErrLarge)
	for i := range many {
		many[i].Chance = parts("1/3")
	}
	check("too many", many, api.ErrLarge)
	check("3000", many[:api.MaxPeople], api.OK)
}
