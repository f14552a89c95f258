package interview

import (
	"strings"
	"testing"

	"canvass/api"
)

// each calls all functions with a form, and holds that they have an error, and nothing else.
func each(t *testing.T, f api.Form, seed string, want api.Fault) {
	t.Helper()
	if r, fault := RouteOf(f, seed, []api.Given{given("nobody", numberValue(1))}); fault != want || !sameRoute(r, api.Route{}) {
		t.Error("RouteOf", fault, "not", want)
	}
	if l, fault := Data(f, seed, []api.Given{given("nobody", numberValue(1))}); fault != want || len(l) > 0 {
		t.Error("Data", fault, "not", want)
	}
	if s, fault := SceneOf(f, seed, []api.Given{given("nobody", numberValue(1))}); fault != want || len(s.Cells)+len(s.Loops)+len(s.Bounds)+len(s.Rows) > 0 {
		t.Error("SceneOf", fault, "not", want)
	}
	if i, fault := New(f, seed, -1); fault != want || i != nil {
		t.Error("New", fault, "not", want)
	}
	if i, n, fault := Replay(f, seed, -1, []api.Step{{}}); fault != want || i != nil || n != 0 {
		t.Error("Replay", n, fault, "not", want)
	}
}

// TestFormsAndSeeds holds the errors that all functions with a form have first, in order.
func TestFormsAndSeeds(t *testing.T) {
	f := listed(t, "page p\n  question q number 0 9\n")
	wrong := f
	wrong.Version = 0
	each(t, wrong, " ", api.ErrRange)
	wrong.Version, wrong.Name = 1, ""
	each(t, wrong, strings.Repeat(" ", 41), api.ErrName)
	each(t, f, strings.Repeat("x", 41), api.ErrLarge)
	each(t, f, strings.Repeat(" ", 41), api.ErrLarge)
	for _, seed := range []string{" ", "a b", "\x7f", "x\n", "\x00", "\x20", "ab\xc3\xa4", strings.Repeat("x", 39) + " "} {
		each(t, f, seed, api.ErrRange)
	}
	for _, seed := range []string{"", "!", "~", "a|b", strings.Repeat("!~", 20)} {
		if _, fault := RouteOf(f, seed, nil); fault != api.OK {
			t.Error("RouteOf with the seed", seed, fault)
		}
		if _, fault := New(f, seed, 0); fault != api.OK {
			t.Error("New with the seed", seed, fault)
		}
	}
}

const givenLines = `page p
  question q number 0 9
  question s choices mix 0 4
  question w text 0 9
loop a count 2
  page r
    loop b count 2
      question x choice two
      compute y = 1
  loop c count 1
    loop d count 1
      page u
        question deep day @2000-01-01 @2000-12-31
end z
`

// givenErrors are given answers with their errors (I1).
func givenErrors() []struct {
	l    []api.Given
	want api.Fault
} {
	long := strings.Repeat("x", api.MaxText+1)
	bool1 := api.Value{Kind: api.Bool, N: 1}
	ok := given("q", numberValue(1))
	return []struct {
		l    []api.Given
		want api.Fault
	}{
		// Each error, and the next ones with it.
		{[]api.Given{given("nobody", api.Value{Kind: 9}, 0)}, api.ErrName},
		{[]api.Given{given("", bool1)}, api.ErrName}, {[]api.Given{given("p", bool1)}, api.ErrName}, {[]api.Given{given("a", bool1)}, api.ErrName}, {[]api.Given{given("y", numberValue(1), 1, 1)}, api.ErrName},
		{[]api.Given{given("z", api.Value{})}, api.ErrName}, {[]api.Given{given("two", api.Value{})}, api.ErrName}, {[]api.Given{given("option", choiceValue(1))}, api.ErrName}, {[]api.Given{given("f", api.Value{})}, api.ErrName},
		{[]api.Given{given("q", bool1, 0)}, api.ErrForm}, {[]api.Given{given("q", bool1, 1)}, api.ErrForm}, {[]api.Given{given("x", bool1)}, api.ErrForm}, {[]api.Given{given("x", bool1, 1)}, api.ErrForm}, {[]api.Given{given("x", bool1, 1, 0, 1)}, api.ErrForm},
		{[]api.Given{given("deep", bool1, 1, 0)}, api.ErrForm}, {[]api.Given{given("deep", bool1, 1, 1, 1, 1, 1)}, api.ErrForm},
		{[]api.Given{given("x", api.Value{Kind: 9}, 0, 1)}, api.ErrRange}, {[]api.Given{given("x", api.Value{Kind: 9}, 1, 1000)}, api.ErrRange}, {[]api.Given{given("x", bool1, -1, 1)}, api.ErrRange}, {[]api.Given{given("deep", bool1, 1, 1, 0)}, api.ErrRange},
		{[]api.Given{given("q", api.Value{Kind: 9})}, api.ErrKind}, {[]api.Given{given("q", api.Value{Kind: -1})}, api.ErrKind}, {[]api.Given{given("q", api.Value{N: 1})}, api.ErrForm}, {[]api.Given{given("q", api.Value{Kind: api.Bool, S: "x"})}, api.ErrForm},
		{[]api.Given{given("q", numberValue(api.MaxNumber))}, api.ErrRange}, {[]api.Given{given("q", api.Value{Kind: api.Bool, N: 2})}, api.ErrRange}, {[]api.Given{given("w", textValue(long))}, api.ErrLarge}, {[]api.Given{given("s", choicesValue(2, 1))}, api.ErrOrder},
		{[]api.Given{given("q", bool1)}, api.ErrKind}, {[]api.Given{given("q", api.Value{Kind: api.Bool})}, api.ErrKind},
		{[]api.Given{ok, ok}, api.ErrTwice}, {[]api.Given{ok, given("q", api.Value{})}, api.ErrTwice}, {[]api.Given{ok, given("s", choicesValue()), given("q", textValue("x"))}, api.ErrTwice}, {[]api.Given{given("x", choiceValue(1), 1, 2), given("x", choiceValue(1), 2, 1), given("x", choiceValue(1), 1, 2)}, api.ErrTwice},
		{[]api.Given{ok, given("q", bool1)}, api.ErrKind}, {[]api.Given{ok, given("q", api.Value{Kind: api.Number, N: api.MaxNumber + 1})}, api.ErrRange},
		// One answer after the other.
		{[]api.Given{given("q", bool1), given("nobody", numberValue(1))}, api.ErrKind}, {[]api.Given{ok, ok, given("nobody", numberValue(1))}, api.ErrTwice}, {[]api.Given{ok, given("x", choiceValue(1)), ok}, api.ErrForm},
		// Sound ones, of whatever kind.
		{nil, api.OK}, {[]api.Given{given("q", textValue("x")), given("w", api.Value{}), given("s", specialValue(3)), given("x", choiceValue(999), 1, 2), given("x", choiceValue(1), 2, 1), given("x", choiceValue(1), 999, 999), given("deep", api.Value{Kind: api.Day}, 999, 1, 1)}, api.OK},
	}
}

// TestGiven holds the errors of given answers, in order (I1).
func TestGiven(t *testing.T) {
	f := listed(t, givenLines)
	for _, x := range givenErrors() {
		if r, fault := RouteOf(f, "s", x.l); fault != x.want || fault != api.OK && !sameRoute(r, api.Route{}) {
			t.Error("RouteOf", x.l, fault, "not", x.want)
		}
		if l, fault := Data(f, "s", x.l); fault != x.want || fault != api.OK && len(l) > 0 {
			t.Error("Data", x.l, fault, "not", x.want)
		}
		if s, fault := SceneOf(f, "s", x.l); fault != x.want || fault != api.OK && len(s.Cells)+len(s.Loops)+len(s.Bounds)+len(s.Rows) > 0 {
			t.Error("SceneOf", x.l, fault, "not", x.want)
		}
	}
}
