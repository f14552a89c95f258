package code

import (
	"testing"

	"canvass/api"
)

// both is codings of eight cases, of which the coders 1 and 2 have five in common.
const both = "1 1 21, 1 2 21, 2 1 21, 2 2 25, 3 1 25, 3 2 21, 4 1 30, 5 2 30, 6 1 21, 6 2 21, 7 3 6, 8 1 6, 8 2 21, 8 3 6"

func TestConfusions(t *testing.T) {
	l := nodesIn(t, beings)
	for _, x := range []struct {
		a, b int
		want string
	}{
		{1, 2, "[{6 21 1} {21 21 2} {21 25 1} {25 21 1}]"}, {2, 1, "[{21 6 1} {21 21 2} {21 25 1} {25 21 1}]"},
		{1, 3, "[{6 6 1}]"}, {3, 2, "[{6 21 1}]"}, {1, 1, "[{6 6 1} {21 21 3} {25 25 1} {30 30 1}]"}, {3, 3, "[{6 6 2}]"}, {1, 4, "[]"}, {50, 50, "[]"},
	} {
		got, fault := Confusions(l, codingsIn(t, both), x.a, x.b)
		is(t, show("Confusions", x.a, x.b), show(got, fault), x.want+" 0")
	}
	got, fault := Confusions(l, nil, 1, 2)
	is(t, "no codings", show(got, fault), "[] 0")
}

func TestKappa(t *testing.T) {
	l := nodesIn(t, beings)
	for _, x := range []struct {
		what, codings string
		want          string
	}{
		// p is 2/5, e is (3 * 4 + 1 * 1) / 25.
		{"five common cases", both, "{-1 4}"},
		{"always equal", "1 1 5, 1 2 5, 2 1 6, 2 2 6", "{1 1}"},
		{"always equal and one code", "1 1 5, 1 2 5, 2 1 5, 2 2 5", "{1 1}"},
		{"always different", "1 1 5, 1 2 6, 2 1 6, 2 2 5", "{-1 1}"},
		{"no code that both gave", "1 1 5, 1 2 6", "{0 1}"},
		{"by chance", "1 1 5, 1 2 5, 2 1 5, 2 2 6", "{0 1}"},
		{"codes near one another are different", "1 1 20, 1 2 21, 2 1 20, 2 2 20, 3 1 6, 3 2 6", "{1 2}"},
		{"cases that one coder has alone", "1 1 5, 1 2 5, 2 1 6, 3 2 30, 4 1 6, 4 2 6", "{1 1}"},
	} {
		got, fault := Kappa(l, codingsIn(t, x.codings), 1, 2)
		is(t, x.what, show(got, fault), x.want+" 0")
		got, fault = Kappa(l, codingsIn(t, x.codings), 2, 1)
		is(t, x.what+", the other way", show(got, fault), x.want+" 0")
	}
	got, fault := Kappa(l, codingsIn(t, both), 1, 1)
	is(t, "a coder and itself", show(got, fault), "{1 1} 0")
}

// TestPairFaults holds the errors of Confusions and Kappa and their order (C7).
func TestPairFaults(t *testing.T) {
	l := nodesIn(t, beings)
	for _, x := range [][2]int{{0, 1}, {1, 0}, {51, 1}, {1, 51}, {-1, 1}, {1, 1 << 62}, {0, 0}} {
		for _, text := range []string{both, ""} {
			got, fault := Confusions(l, codingsIn(t, text), x[0], x[1])
			refuses(t, show("Confusions", x), api.ErrRange, got, fault)
			kappa, fault := Kappa(l, codingsIn(t, text), x[0], x[1])
			refuses(t, show("Kappa", x), api.ErrRange, kappa, fault)
		}
	}
	for _, x := range [][2]int{{1, 4}, {4, 1}, {50, 50}} {
		kappa, fault := Kappa(l, codingsIn(t, both), x[0], x[1])
		refuses(t, show("Kappa", x), api.ErrNone, kappa, fault)
	}
	kappa, fault := Kappa(l, nil, 1, 2)
	refuses(t, "Kappa of no codings", api.ErrNone, kappa, fault)
}

func TestAlpha(t *testing.T) {
	l := nodesIn(t, beings)
	for _, x := range []struct {
		what, codings string
		plain, tree   string
	}{
		{"always equal", "1 1 5, 1 2 5, 2 1 6, 2 2 6", "{1 1}", "{1 1}"},
		{"one code alone", "1 1 5, 1 2 5, 2 1 5, 2 2 5", "{1 1}", "{1 1}"},
		{"one case, two codes", "1 1 5, 1 2 6", "{0 1}", "{0 1}"},
		{"always different", "1 1 5, 1 2 6, 2 1 5, 2 2 6", "{-1 2}", "{-1 2}"},
		// n is 4; o is 2, or 2 * 4; x is 6, or 6 * 4.
		{"one of two cases equal", "1 1 21, 1 2 25, 2 1 21, 2 2 21", "{0 1}", "{0 1}"},
		// n is 4; o is 2 + 2, or 2 * 1 + 2 * 4; 20 twice, 21 and 30 once, so x is 2 * (2 + 2 + 1), or 2 * (2 * 1 + 2 * 4 + 1 * 9).
		{"near ones and far ones", "1 1 20, 1 2 21, 2 1 20, 2 2 30", "{-1 5}", "{4 19}"},
		// n is 5; o is 4 / 2 + 0, or 4 * 1 / 2 + 0; 20 four times and 21 once.
		{"three codings of a case", "1 1 20, 1 2 20, 1 3 21, 2 1 20, 2 2 20", "{0 1}", "{0 1}"},
		{"cases with one coding", "1 1 5, 2 1 21, 2 2 25, 3 1 21, 3 2 21, 4 3 6", "{0 1}", "{0 1}"},
		// n is 6; o is 2, or 2 * 4; 10 three times, 21 twice and 5 once, so x is 2 * (3 + 6 + 2), or 2 * (3 * 4 + 6 * 4 + 2 * 16).
		{"codes without a meeting", "1 1 10, 1 2 5, 2 1 10, 2 2 10, 3 1 21, 3 2 21", "{6 11}", "{12 17}"},
	} {
		got, fault := Alpha(l, codingsIn(t, x.codings), false)
		is(t, x.what, show(got, fault), x.plain+" 0")
		got, fault = Alpha(l, codingsIn(t, x.codings), true)
		is(t, x.what+", in the tree", show(got, fault), x.tree+" 0")
	}
	for _, text := range []string{"", "1 1 5", "1 1 5, 2 2 5, 3 1 6"} {
		for _, tree := range []bool{false, true} {
			got, fault := Alpha(l, codingsIn(t, text), tree)
			refuses(t, "Alpha of "+text, api.ErrNone, got, fault)
		}
	}
}
