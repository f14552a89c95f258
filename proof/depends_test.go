package proof

import (
	"slices"
	"strconv"
	"strings"
	"testing"

	"canvass/api"
)

const dependsLines = `page p
  question a choice two
  question b number 0 9
    if a = #1
  question c choices mix 0 3
    only option = #3 or b > 2
  question u text 0 5
  compute k = c has #3
    if answered(u)
block x
  if k
  page q
    question d choice two
      only option = #1 or asked(option)
    question e choice two
      only option = #1 or d = #2
    question g choice two
page r
  question h choice two
    if reason(h0) = 1 or asked(k)
`

func TestDepends(t *testing.T) {
	lines := strings.Replace(dependsLines, "page p\n", "page p\n  question h0 choice two\n", 1)
	ends := "end i\n  if h = #1\npage s\n  question j choice two\n    if g = #1\nend l\n  if false\npage v\n"
	f := pagesOf(t, lines+ends)
	for _, x := range []struct{ name, want string }{
		{"p", ""}, {"h0", ""}, {"a", ""}, {"b", "a"},
		// The Only of an item itself does not count; that of one that is named does.
		{"c", ""}, {"u", ""}, {"k", "u"},
		{"x", "a b c u"}, {"q", "a b c u"}, {"d", "a b c u"}, {"e", "a b c u"}, {"g", "a b c u"},
		{"r", ""}, {"h", "h0 a b c u"},
		// Behind an end.
		{"i", "h0 a b c u h"}, {"s", "h0 a b c u h"}, {"j", "h0 a b c u g h"}, {"l", "h0 a b c u h"}, {"v", "h0 a b c u h"},
	} {
		if got, fault := Depends(f, x.name); !slices.Equal(got, strings.Fields(x.want)) || fault != api.OK {
			t.Error("Depends", x.name, got, fault)
		}
	}
	// An Only of which the offered options follow brings all of which its question follows.
	f = pagesOf(t, `page p
  question a choice two
  question b choice two
    if a = #1
page q
  question c choice two
    only b = #1
  question d choice two
    if c = #1
`)
	if got, _ := Depends(f, "c"); len(got) > 0 {
		t.Error("Depends counts an Only", got)
	}
	if got, _ := Depends(f, "d"); !slices.Equal(got, []string{"a", "b", "c"}) {
		t.Error("Depends", got)
	}
	// What the name of a computed value brings that names one.
	f = pagesOf(t, "page p\n  question a choice two\n  question b choice two\n  compute k = a = #1\n  compute l = not k\n    if b = #1\nend e\n  if l\npage q\n")
	for name, want := range map[string]string{"k": "", "l": "b", "e": "a b", "q": "a b"} {
		if got, _ := Depends(f, name); !slices.Equal(got, strings.Fields(want)) {
			t.Error("Depends", name, got)
		}
	}
	// An end brings all of which its own reaching follows: what is around it, and the ends ahead of it.
	f = pagesOf(t, `page p
  question a choice two
  question b choice two
  question c choice two
  question d choice two
block x
  if a = #1
  block y
    if b = #1
    end e
      if c = #1
page q
end g
page r
`)
	for name, want := range map[string]string{"x": "a", "y": "a b", "e": "a b c", "q": "a b c", "g": "a b c", "r": "a b c"} {
		if got, _ := Depends(f, name); !slices.Equal(got, strings.Fields(want)) {
			t.Error("Depends", name, got)
		}
	}
	for _, name := range []string{"nobody", "", "option", "two"} {
		if got, fault := Depends(f, name); got != nil || fault != api.ErrName {
			t.Error("Depends", name, got, fault)
		}
	}
}

// TestSamples holds how many samples a question has by what Mix tells of an item with a condition on it.
func TestSamples(t *testing.T) {
	for _, x := range []struct {
		question string
		more     string // conditions of further items
		want     int
	}{
		// Numbers: 0, 9, and Missing.
		{"number 0 9", "asked(x)", 3}, {"number 0 9 need", "asked(x)", 2}, {"number 0 9 need reasons dontknow noanswer", "asked(x)", 4}, {"number 0 9 reasons refused", "asked(x)", 4},
		{"number 4 4 need", "asked(x)", 1}, {"number 4 4 need", "x = 4", 1}, {"number 4 5 need", "x = 4", 2},
		{"number 0 9 need", "x = 4", 5}, {"number 0 9 need", "4 < x", 5}, {"number 0 9 need", "x = 4 or x > 4|x < 4", 5}, {"number 0 9 need", "x = 4|x = 5", 6}, {"number 0 9 need", "x = 3|x = 5", 7},
		{"number 0 9 need", "x = 0", 3}, {"number 0 9 need", "x = 9", 3}, {"number 0 9 need", "x = 1", 4}, {"number 0 9 need", "x < -1", 2}, {"number 0 9 need", "x < 10", 2}, {"number 0 9 need", "x < 99999|x > -99999", 2},
		// Between two that are accepted.
		{"number 0 9 need", "x > 4.5", 4}, {"number 0 9 places 1 need", "x > 4.5", 5}, {"number 0 9 places 1 need", "x > 4.55", 4}, {"number -9 9 need", "x > -4.5", 4}, {"number -1.5 9.9 need", "x > -1.2", 2}, {"number -1.5 9.9 need", "x > -0.5", 3},
		{"number 0 9 places 4 need", "x > 4.0001", 5},
		// None is accepted.
		{"number 0.5 0.7 need", "asked(x)", 1}, {"number 0.5 0.7", "asked(x)", 1}, {"number 0.5 0.7 need reasons dontknow", "asked(x)", 1}, {"number 0.5 0.7 reasons dontknow", "asked(x)", 2}, {"number -0.7 -0.5 need", "x = -0.6", 1},
		{"number -99999999999.9999 99999999999.9999 places 4 need", "x > 99999999999.9999|x < -99999999999.9999", 4},
		// What is compared is the question itself, anywhere but in checks.
		{"number 0 9 need", "reason(x) = 4", 2}, {"number 0 9 need\n    check x < 4 or x > 6", "asked(x)", 2},
		{"day @2026-01-01 @2026-12-31 need", "asked(x)", 2}, {"day @2026-01-01 @2026-12-31 need", "x = @2026-05-01", 5}, {"day @2026-01-01 @2026-12-31 need", "x < @2025-05-01", 2}, {"day @2026-01-01 @2026-12-31", "x < @2026-12-31", 4},
		{"text 0 5", "answered(x)", 2}, {"text 3 5 need", "answered(x)", 1}, {"text 3 5 need reasons refused", "answered(x)", 2},
		{"choice two", "x = #1", 3}, {"choice two need", "x = #9", 2}, {"choice mix need", "asked(x)", 3},
		// Of 3, 5 and 7, 3 is Alone.
		{"choices mix 0 3", "asked(x)", 6}, {"choices mix 0 3 need", "asked(x)", 5}, {"choices mix 1 3 need", "asked(x)", 4}, {"choices mix 2 3 need", "asked(x)", 1}, {"choices mix 0 1 need", "asked(x)", 4}, {"choices mix 3 3 need", "asked(x)", 1}, {"choices mix 3 3", "asked(x)", 1}, {"choices mix 4 9 need", "asked(x)", 1},
		// With Only and Need it can be stuck.
		{"choice two need\n    only true", "asked(x)", 3}, {"choice two\n    only true", "asked(x)", 3}, {"choice two need reasons dontknow\n    only true", "asked(x)", 4}, {"choices mix 3 3 need\n    only true", "asked(x)", 1}, {"choices mix 2 3 need\n    only true", "asked(x)", 2},
	} {
		lines := "page p\n  question x " + x.question + "\n"
		for i, condition := range strings.Split(x.more, "|") {
			lines += "page q" + strconv.Itoa(i) + "\n  if " + condition + "\n"
		}
		f := pagesOf(t, lines)
		if n, fault := Mix(f, "q0"); n != x.want || fault != api.OK {
			t.Error("Mix", lines, n, fault)
		}
		if n, fault := Mix(f, "x"); n != 1 || fault != api.OK {
			t.Error("Mix of the question itself", n, fault)
		}
	}
}

func TestMix(t *testing.T) {
	f := pagesOf(t, `page p
  question a choice two
  question n number 0 9 need
  question b choice two need
    if a = #1
    only n > 4 and option = #1
  question m number 0.5 0.7 need
  compute k = n = 9 or m = 0.6
  question c choice mix
    only b = #2
  question d choice mix
    if k
    only b = #1 or option = #3
  question e number 0 9 need
    if asked(b)
`)
	// a has 3 samples, n has 0, 3, 4, 5, 8 and 9 (of 4 and 9), b has 2, and can be stuck, m has none. The If and the Only of b count, as conditions of its own.
	for _, x := range []struct {
		name string
		want int
	}{
		{"p", 1}, {"a", 1}, {"b", 3 * 6}, {"m", 1}, {"k", 1}, {"c", 3 * 6 * 3}, {"d", 3 * 6 * 3}, {"e", 3 * 6 * 3},
	} {
		if n, fault := Mix(f, x.name); n != x.want || fault != api.OK {
			t.Error("Mix", x.name, n, fault)
		}
	}
	if n, fault := Mix(f, "nobody"); n != 0 || fault != api.ErrName {
		t.Error("Mix of nobody", n, fault)
	}
}

// screened returns a form with some questions that need one of two options, and a question that depends on all of them.
func screened(t *testing.T, n int, more string) api.Form {
	t.Helper()
	lines, condition := "page p\n", "    if true"
	for i := range n {
		lines += "  question q" + strconv.Itoa(i) + " choice two need\n"
		condition += " and q" + strconv.Itoa(i) + " = #2"
	}
	return pagesOf(t, lines+"  question last choice two\n"+condition+"\n"+more)
}

func TestLargeMix(t *testing.T) {
	f := screened(t, 12, "")
	if n, fault := Mix(f, "last"); n != api.MaxMix || fault != api.OK {
		t.Error("Mix at the bound", n, fault)
	}
	if l, fault := Reach(f, "last"); len(l) != 12 || fault != api.OK {
		t.Error("Reach at the bound", len(l), fault)
	}
	if l, fault := Dead(f); l != nil || fault != api.OK {
		t.Error("Dead at the bound", l, fault)
	}
	if same, l, fault := Same(f, f); !same || l != nil || fault != api.OK {
		t.Error("Same at the bound", same, l, fault)
	}
	for _, n := range []int{13, 64, 90} {
		f := screened(t, n, "page empty\n")
		holdLarge(t, f, "last")
		if n, fault := Mix(f, "empty"); n != 1 || fault != api.OK {
			t.Error("Mix of another item", n, fault)
		}
		if l, fault := Reach(f, "q0"); len(l) != 0 || fault != api.OK {
			t.Error("Reach of another item", l, fault)
		}
		if same, l, fault := Same(f, f); same || l != nil || fault != api.ErrLarge {
			t.Error("Same", same, l, fault)
		}
	}
	// The Only of an item itself counts for Mix, and so for all proofs.
	f = screened(t, 12, "")
	last := itemOf(f.Items, "last")
	last.Answer.Only = []api.Expr{exprOf(t, "q0 = #1 and option = #1")}
	if n, fault := Mix(f, "last"); n != api.MaxMix || fault != api.OK {
		t.Error("Mix with an Only", n, fault)
	}
	f = screened(t, 13, "")
	last = itemOf(f.Items, "last")
	last.Answer.Only, last.If = last.If, nil
	if l, fault := Depends(f, "last"); len(l) != 0 || fault != api.OK {
		t.Error("Depends", l, fault)
	}
	holdLarge(t, f, "last")
}

// holdLarge holds that an item of a form depends on too many questions for proofs.
func holdLarge(t *testing.T, f api.Form, name string) {
	t.Helper()
	if n, fault := Mix(f, name); n != 0 || fault != api.ErrLarge {
		t.Error("Mix", n, fault)
	}
	if l, fault := Reach(f, name); l != nil || fault != api.ErrLarge {
		t.Error("Reach", l, fault)
	}
	if l, fault := Reach(f, "nobody"); l != nil || fault != api.ErrName {
		t.Error("Reach of nobody", l, fault)
	}
	if l, fault := Dead(f); l != nil || fault != api.ErrLarge {
		t.Error("Dead", l, fault)
	}
	if l, fault := Stuck(f); l != nil || fault != api.ErrLarge {
		t.Error("Stuck", l, fault)
	}
	if l, fault := Constant(f); l != nil || fault != api.ErrLarge {
		t.Error("Constant", l, fault)
	}
	if l, fault := Cover(f); l != nil || fault != api.ErrLarge {
		t.Error("Cover", l, fault)
	}
}
