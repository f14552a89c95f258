package value

import (
	"slices"
	"strings"
	"testing"

	"canvass/api"
)

func special(n int) api.Value    { return api.Value{Kind: api.Special, N: n} }
func text(s string) api.Value    { return api.Value{Kind: api.Text, S: s} }
func choice(n int) api.Value     { return api.Value{Kind: api.Choice, N: n} }
func choices(n ...int) api.Value { return api.Value{Kind: api.Choices, Set: n} }
func day(n int) api.Value        { return api.Value{Kind: api.Day, N: n} }

// equal compares values in all fields; an empty Set is nil or not.
func equal(a, b api.Value) bool {
	return a.Kind == b.Kind && a.N == b.N && a.S == b.S && slices.Equal(a.Set, b.Set)
}

// codes returns n codes from 1 on.
func codes(n int) []int {
	l := make([]int, n)
	for i := range l {
		l[i] = i + 1
	}
	return l
}

func TestCheck(t *testing.T) {
	long := strings.Repeat("x", api.MaxText)
	for _, x := range []struct {
		v    api.Value
		want api.Fault
	}{
		{api.Value{}, api.OK},
		{api.Value{Set: []int{}}, api.OK},
		{special(api.DontKnow), api.OK}, {special(api.NoAnswer), api.OK},
		{number(0), api.OK}, {number(api.MaxNumber), api.OK}, {number(-api.MaxNumber), api.OK},
		{text(""), api.OK}, {text(" ~'"), api.OK}, {text(long), api.OK},
		{choice(1), api.OK}, {choice(api.MaxCode), api.OK},
		{choices(), api.OK}, {api.Value{Kind: api.Choices, Set: []int{}}, api.OK}, {choices(1, 2, api.MaxCode), api.OK}, {choices(codes(api.MaxSet)...), api.OK},
		{day(api.MinDay), api.OK}, {day(api.MaxDay), api.OK},
		{boolean(false), api.OK}, {boolean(true), api.OK},

		{api.Value{Kind: -1}, api.ErrKind}, {api.Value{Kind: 8}, api.ErrKind}, {api.Value{Kind: 8, N: 1, S: "x"}, api.ErrKind},

		{api.Value{N: 1}, api.ErrForm}, {api.Value{S: "x"}, api.ErrForm}, {api.Value{Set: []int{1}}, api.ErrForm},
		{api.Value{Kind: api.Special, N: 1, S: "x"}, api.ErrForm}, {api.Value{Kind: api.Special, N: 1, Set: []int{1}}, api.ErrForm},
		{api.Value{Kind: api.Number, S: "x"}, api.ErrForm}, {api.Value{Kind: api.Number, Set: []int{0}}, api.ErrForm},
		{api.Value{Kind: api.Text, N: 1}, api.ErrForm}, {api.Value{Kind: api.Text, Set: []int{1}}, api.ErrForm},
		{api.Value{Kind: api.Choice, N: 1, S: "x"}, api.ErrForm}, {api.Value{Kind: api.Choice, N: 1, Set: []int{1}}, api.ErrForm},
		{api.Value{Kind: api.Choices, N: 1}, api.ErrForm}, {api.Value{Kind: api.Choices, S: "x"}, api.ErrForm},
		{api.Value{Kind: api.Day, S: "x"}, api.ErrForm}, {api.Value{Kind: api.Day, Set: []int{1}}, api.ErrForm},
		{api.Value{Kind: api.Bool, S: "x"}, api.ErrForm}, {api.Value{Kind: api.Bool, Set: []int{1}}, api.ErrForm},

		{special(0), api.ErrRange}, {special(4), api.ErrRange}, {number(api.MaxNumber + 1), api.ErrRange}, {number(-api.MaxNumber - 1), api.ErrRange},
		{choice(0), api.ErrRange}, {choice(api.MaxCode + 1), api.ErrRange}, {day(api.MinDay - 1), api.ErrRange}, {day(api.MaxDay + 1), api.ErrRange},
		{api.Value{Kind: api.Bool, N: 2}, api.ErrRange}, {api.Value{Kind: api.Bool, N: -1}, api.ErrRange},
		{text("\n"), api.ErrRange}, {text("a\x1f"), api.ErrRange}, {text("\x7f"), api.ErrRange}, {text("\xe4"), api.ErrRange},
		{choices(0), api.ErrRange}, {choices(1, api.MaxCode+1), api.ErrRange},

		{text(long + "x"), api.ErrLarge}, {choices(codes(api.MaxSet + 1)...), api.ErrLarge},
		{choices(2, 1), api.ErrOrder}, {choices(1, 1), api.ErrOrder}, {choices(1, 3, 2), api.ErrOrder},

		// Of several errors the one that comes first in the rule.
		{api.Value{Kind: api.Number, N: api.MaxNumber + 1, S: "x"}, api.ErrForm},
		{api.Value{Kind: api.Text, N: 1, S: long + "\n"}, api.ErrForm},
		{text(long + "\n"), api.ErrLarge},
		{choices(append([]int{0}, codes(api.MaxSet)...)...), api.ErrLarge},
		{choices(2, 1, 0), api.ErrRange},
	} {
		if got := Check(x.v); got != x.want {
			t.Errorf("Check(%v) is %d, not %d", x.v, got, x.want)
		}
	}
}

func TestCompare(t *testing.T) {
	// Each value comes ahead of the next one.
	l := []api.Value{
		{Kind: -5}, {N: -1}, {}, {S: "a"}, special(1), special(3), number(-5), number(0), number(7), text(""), text("A"), text("a"), text("aa"), text("b"),
		choice(1), choice(2), choices(), choices(1), choices(1, 2), choices(1, 2, 3), choices(1, 3), choices(2), day(-1), day(0), boolean(false), boolean(true), {Kind: 99},
	}
	for i, a := range l {
		for j, b := range l {
			want := 0
			switch {
			case i < j:
				want = -1
			case i > j:
				want = 1
			}
			if got := Compare(a, b); got != want {
				t.Errorf("Compare(%v, %v) is %d, not %d", a, b, got, want)
			}
		}
	}
	if Compare(api.Value{N: 1, S: "b"}, api.Value{N: 2, S: "a"}) != -1 || Compare(api.Value{S: "a", Set: []int{2}}, api.Value{S: "b", Set: []int{1}}) != -1 {
		t.Error("Compare: N is ahead of S, and S of Set")
	}
	if Compare(choices(), api.Value{Kind: api.Choices, Set: []int{}}) != 0 {
		t.Error("Compare: an empty Set is nil or not")
	}
}

// TestShowRead has values with their texts: Show makes the one of the other, and Read the other way round.
func TestShowRead(t *testing.T) {
	for _, x := range []struct {
		v    api.Value
		text string
	}{
		{api.Value{}, "-"}, {special(api.DontKnow), "dontknow"}, {special(api.Refused), "refused"}, {special(api.NoAnswer), "noanswer"},
		{number(0), "0"}, {number(1), "0.0001"}, {number(-1), "-0.0001"}, {number(10), "0.001"}, {number(100), "0.01"}, {number(1000), "0.1"}, {number(10000), "1"}, {number(-10000), "-1"},
		{number(125000), "12.5"}, {number(10203), "1.0203"}, {number(100000), "10"}, {number(1002000), "100.2"},
		{number(api.MaxNumber), "99999999999.9999"}, {number(-api.MaxNumber), "-99999999999.9999"},
		{text(""), "''"}, {text("'"), "''''"}, {text("it's"), "'it''s'"}, {text("''"), "''''''"}, {text("a b"), "'a b'"}, {text("12"), "'12'"}, {text("\\{#@"), "'\\{#@'"},
		{choice(1), "#1"}, {choice(999), "#999"},
		{choices(), "{}"}, {choices(7), "{#7}"}, {choices(1, 3), "{#1,#3}"},
		{day(0), "@1970-01-01"}, {day(api.MinDay), "@1900-01-01"}, {day(api.MaxDay), "@2199-12-31"}, {day(20774), "@2026-11-17"}, {day(11016), "@2000-02-29"},
		{boolean(false), "false"}, {boolean(true), "true"},
	} {
		if got, fault := Show(x.v); got != x.text || fault != api.OK {
			t.Errorf("Show(%v) is %q, %d, not %q", x.v, got, fault, x.text)
		}
		if got, fault := Read(x.text); !equal(got, x.v) || fault != api.OK {
			t.Errorf("Read(%q) is %v, %d, not %v", x.text, got, fault, x.v)
		}
	}
	full := choices(codes(api.MaxSet)...)
	shown, _ := Show(full)
	if got, fault := Read(shown); !equal(got, full) || fault != api.OK {
		t.Error("Read of a full Set", got, fault)
	}
	long := text(strings.Repeat("'", api.MaxText))
	shown, _ = Show(long)
	if got, fault := Read(shown); len(shown) != 2*api.MaxText+2 || !equal(got, long) || fault != api.OK {
		t.Error("Read of a long Text", got, fault)
	}
}

func TestShowOfOthers(t *testing.T) {
	for _, v := range []api.Value{{Kind: 8}, {N: 1}, number(api.MaxNumber + 1), text("\n"), text(strings.Repeat("x", 201)), choices(2, 1), special(0), special(4), day(api.MaxDay + 1)} {
		if got, fault := Show(v); got != "" || fault != Check(v) {
			t.Errorf("Show(%v) is %q, %d", v, got, fault)
		}
	}
}

func TestReadOfOthers(t *testing.T) {
	set41, _ := Show(choices(codes(api.MaxSet)...))
	set41 = strings.TrimSuffix(set41, "}") + ",#41}"
	for _, s := range []string{
		"", " ", "--", " -", "- ", "Dontknow", "dontknow ", "unknown", "TRUE", "true ", "tru", "a",
		"0.50", "-0", "-0.0", "0.0", "007", "00", "01", "1.", ".5", "-.5", "1.00005", "1.0", "1.5.5", "1..5", "+1", "1e3", "1,5", "1_000", " 1", "1 ", "- 1", "--1", "1x", "0x10", "1.+5", "1.-5",
		"100000000000", "99999999999.99991", "123456789012345678901234567890", "-100000000000",
		"'", "'a", "a'", "'a'b'", "'a''", "'''", "\"a\"", "'\n'", "'\x7f'", "'" + strings.Repeat("x", api.MaxText+1) + "'",
		"#", "#0", "#01", "#1000", "#-1", "#+1", "# 1", "#1 ", "#1.0", "##1", "#99999999999999999999",
		"{", "}", "{#1", "#1}", "{#1,}", "{,#1}", "{,}", "{1}", "{#2,#1}", "{#1,#1}", "{#0}", "{#1000}", "{ }", "{#1, #2}", "{#1 }", "{#1,#+2}", "{{#1}}", "{#1}}", set41, "{" + strings.Repeat("#1,", 100000) + "#1}",
		"@", "@2023-02-29", "@2023-2-28", "@2023-02-28 ", "@1899-12-31", "@2200-01-01", "@2023-13-01", "@2023-00-01", "@2023-01-00", "@2023/01/01", "@20230101", "@02023-01-01", "@2023-01-1", "@+023-01-01", "2023-01-01", "@2023-01-+1",
	} {
		if v, fault := Read(s); fault != api.ErrSyntax || !equal(v, api.Value{}) {
			t.Errorf("Read(%.40q) is %v, %d", s, v, fault)
		}
	}
}
