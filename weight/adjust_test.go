package weight

import (
	"testing"

	"canvass/api"
)

// answers reads who has answered, as yny.
func answers(text string) []bool {
	out := make([]bool, len(text))
	for i := range out {
		out[i] = text[i] == 'y'
	}
	return out
}

// TestRespond holds W3.
func TestRespond(t *testing.T) {
	for _, x := range []struct{ what, people, answered, want string }{
		{"nobody", "", "", "[] 0"},
		{"all have answered", "1/2, 3, 1/7", "yyy", "[1/2 3 1/7] 0"},
		{"one has not", "1, 3", "yn", "[4 0] 0"},
		{"two classes", "1 - 1, 2 - 0, 3 - 1, 5 - 0, 7 - 1", "yynny", "[11/8 7 0 0 77/8] 0"},
		{"the last class", "1 - 200, 1 - 200, 1 - 0", "nyy", "[0 2 1] 0"},
		{"parts", "1/3, 1/4, 1/5", "yny", "[47/96 0 47/160] 0"},
		{"neither Layer, Part nor Cells matter", "1 1 0 1 0, 1 2 0 2 1", "yn", "[2 0] 0"},
		{"a class of which none has answered", "1 - 0, 1 - 1, 1 - 1", "ynn", "[] 19"},
		{"none has answered", "1", "n", "[] 19"},
	} {
		got, fault := Respond(peopleIn(t, x.people), answers(x.answered))
		is(t, x.what, show(got, fault), x.want)
	}
	for _, answered := range []string{"", "n", "nnn"} {
		got, fault := Respond(peopleIn(t, "1, 1"), answers(answered))
		refuses(t, "answers of another number", api.ErrForm, got, fault)
	}
	got, fault := Respond(peopleIn(t, "1, 0"), nil)
	refuses(t, "an error of people comes first", api.ErrRange, got, fault)
}

// TestPost holds W4.
func TestPost(t *testing.T) {
	for _, x := range []struct {
		what, margins, people string
		margin                int
		want                  string
	}{
		{"the example", "m 10 10", "1 0, 3 1", 0, "[10 10] 0"},
		{"people share a cell", "m 10 6", "1 0, 3 1, 4 0, 1/2 1", 0, "[2 36/7 8 6/7] 0"},
		{"the second margin", "m 1 9, n 2 3 5", "1 0.0, 1 0.1, 1 1.1, 2 1.2", 1, "[2 3/2 3/2 5] 0"},
		{"a total of 0", "m 0 5", "1 0, 2 1, 3 0", 0, "[0 5 0] 0"},
		{"an empty cell with the total 0", "m 0 5", "1 1", 0, "[5] 0"},
		{"an empty cell of another margin", "m 3 2, n 5", "1 1.0", 1, "[5] 0"},
		{"nobody, and no totals", "m 0 0", "", 0, "[] 0"},
		{"an empty cell", "m 3 2", "1 1", 0, "[] 19"},
		{"nobody", "m 1/9", "", 0, "[] 19"},
		{"a margin below 0", "m 1", "1 0", -1, "[] 1"},
		{"a margin beyond", "m 3 2", "1 1", 1, "[] 1"},
		{"a margin far out", "m 3 2", "1 1", 1 << 62, "[] 1"},
		{"no margins", "", "1", 0, "[] 1"},
		{"an error of people comes first", "m 1", "0 0", 7, "[] 1"},
		{"an error of margins comes first", "m -1, M 1", "1 0", 7, "[] 1"},
		{"a conflict comes first", "m 1, n 2", "1 0.0", 7, "[] 17"},
	} {
		got, fault := Post(marginsIn(t, x.margins), peopleIn(t, x.people), x.margin)
		is(t, x.what, show(got, fault), x.want)
	}
}

// TestSpread holds W7.
func TestSpread(t *testing.T) {
	for _, x := range []struct{ what, people, want string }{
		{"one person", "2/3", "2/3 2/3 2/3 2/3 1 1 0"},
		{"equal weights", "5, 5, 5, 5", "20 5 5 5 4 1 0"},
		{"two people", "1, 3", "4 1 3 2 8/5 5/4 0"},
		{"the greatest one first", "3, 1/2, 2, 1/2", "6 1/2 3 3/2 8/3 3/2 0"},
	} {
		got, fault := SpreadOf(peopleIn(t, x.people))
		is(t, x.what, show(got, fault), x.want)
	}
	got, fault := SpreadOf(nil)
	refuses(t, "nobody", api.ErrNone, got, fault)
}
