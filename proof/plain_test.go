package proof

import (
	"strings"
	"testing"

	"canvass/api"
	"canvass/fresh"
)

const conditionLines = `page p
  question n number 0 9
  question d day @2026-01-01 @2026-12-31
  question c choice two
  question s choices mix 0 3
  question w text 0 5
  compute k = true
page q
  if true
  question last choice two
    only true
  compute z = true
`

func TestPlainConditions(t *testing.T) {
	for _, x := range []struct {
		plain bool
		texts string
	}{
		{true, "true|false|k|not k|k and asked(n)|(k or not true) and not (false or k and k)"},
		{true, "asked(n)|asked(k)|answered(w)|answered(k)|asked(s) or answered(d)"},
		{true, "n = 1|n <> 1.5|n < -1|n <= 1|n > 1|n >= 1|1 = n|1 <> n|1 < n|1 <= n|1 > n|1 >= n"},
		{true, "d = @2026-01-01|d <> @2026-01-01|d < @2026-01-01|@2026-01-01 >= d"},
		{true, "c = #1|c <> #9|#1 = c|#1 <> c|c in {#1}|c in {}|s has #1|not s has #9"},
		{true, "size(s) = 1|size(s) <> 1|size(s) < 1|size(s) <= 1|size(s) > 1|1 >= size(s)"},
		{true, "reason(n) = 1|reason(w) <> 1|reason(k) < 1|1 <= reason(c)|2 > reason(s)|reason(d) >= 0"},
		{false, "n = n|n + 1 = 2|n = 1 + 1|n - 1 = 1|-n = 1|abs(n) = 1|min(n, 1) = 1|n = size(s)|n = reason(n)|round(n) > 1"},
		{false, "d = d|d = later(d, 1)|year(d) = 2026|days(d, d) = 0|later(d, 1) = @2026-01-01"},
		{false, "c = c|code(c) = 1|c in s|s has c|#1 in s|{#1} has c|#1 in {#1}|{#1} has #1|if(k, c, c) = #1|else(c, #1) = #1"},
		{false, "s = {#1}|s <> {#1}|{#1} = s|size(s) = size(s)|size({#1}) = 1|size(w) = 1|1 < size(w)|size('a') = 1"},
		{false, "w = 'a'|'a' <> w|begins(w, 'a')|holds(w, 'a')|lower(w) = 'a'"},
		{false, "k = true|true <> k|k = k|1 = 1|true = false|if(k, k, k)|else(k, true)|reason(n) = reason(n)|reason(n) = n|reason(n) + 1 = 1"},
		{false, "k and n = n|not w = 'a'|k or true and if(k, k, k)"},
	} {
		for _, text := range strings.Split(x.texts, "|") {
			holdPlain(t, text, x.plain, func(item *api.Item) *[]api.Expr { return &item.If }, "q")
			holdPlain(t, text, x.plain, func(item *api.Item) *[]api.Expr { return &item.Compute }, "z")
			holdPlain(t, text, x.plain, func(item *api.Item) *[]api.Expr { return &item.Answer.Only }, "last")
		}
	}
	// Computed values can have any kind.
	for _, text := range strings.Split("n|d|c|s|w|5|#1|{}|@2026-01-01|'a'|size(s)|reason(n)", "|") {
		holdPlain(t, text, false, func(item *api.Item) *[]api.Expr { return &item.Compute }, "z")
	}
	only := func(item *api.Item) *[]api.Expr { return &item.Answer.Only }
	for _, text := range strings.Split("option = #1|#1 <> option|option in {#1}|asked(option)|answered(option)|reason(option) = 0|not (option = #2 and k)", "|") {
		holdPlain(t, text, true, only, "last")
	}
	for _, text := range strings.Split("code(option) = 1|option in s|option = c|s has option|{#1} has option|#1 in {#1} and option = #1|option = option", "|") {
		holdPlain(t, text, false, only, "last")
	}
}

// holdPlain holds whether a form with a text as a condition of an item is plain.
func holdPlain(t *testing.T, text string, plain bool, of func(item *api.Item) *[]api.Expr, name string) {
	t.Helper()
	f := pagesOf(t, conditionLines)
	*of(itemOf(f.Items, name)) = []api.Expr{exprOf(t, text)}
	want := api.OK
	if !plain {
		want = api.ErrKind
	}
	if fault := Plain(f); fault != want {
		t.Error("Plain with", text, "at", name, fault)
	}
}

func TestPlainForms(t *testing.T) {
	long := "form f 1\nlanguages en\nlist eleven\n"
	for _, code := range strings.Fields("1 2 3 4 5 6 7 8 9 10 11") {
		long += "  option " + code + "\n"
	}
	ten := strings.Replace(long, "  option 11\n", "", 1)
	for _, x := range []struct {
		text string
		want api.Fault
	}{
		{pagesHead, api.OK},
		{pagesHead + "loop l count 2\n", api.ErrKind},
		{pagesHead + "page p\n  question s choices mix 0 3\nblock b\n  loop l over s\n    page q\n", api.ErrKind},
		{pagesHead + "page p\n  loop l count 1\n", api.ErrKind},
		{pagesHead + "block b shuffle\n  end e\n", api.ErrKind},
		{pagesHead + "block b shuffle\n  page p\n  block c\n    page q\n    block d\n      end e\n", api.ErrKind},
		{pagesHead + "block b\n  block c shuffle\n    end e\n", api.ErrKind},
		{pagesHead + "block b\n  end e\nblock c shuffle\n  page p\n  page q\n    block d shuffle\nend x\n", api.OK},
		// Checks and phrases are of no matter.
		{pagesHead + "page p\n  text \"{1 + 1}\"\n  question n number 0 9\n    text \"{n * 2}\"\n    check n * 2 < 9\n      text \"{n / 2}\"\n", api.OK},
		// Lists of Choices are short; others need not be.
		{long + "page p\n  question c choice eleven\n", api.OK},
		{long + "page p\n  question s choices eleven 0 3\n", api.ErrKind},
		{ten + "page p\n  question s choices eleven 0 3\n", api.OK},
	} {
		if fault := Plain(formOf(t, x.text)); fault != x.want {
			t.Error("Plain", x.text, fault)
		}
	}
}

// TestFormFaults holds that all functions have the error of quest.Check first, then that of Plain, and then their own.
func TestFormFaults(t *testing.T) {
	wrong := pagesOf(t, "loop l count 2\n")
	wrong.Version = 0
	rough := pagesOf(t, "loop l count 2\n")
	good := pagesOf(t, "page p\n")
	for _, x := range []struct {
		f    api.Form
		want api.Fault
	}{{wrong, api.ErrRange}, {rough, api.ErrKind}} {
		faults := map[string]api.Fault{"Plain": Plain(x.f)}
		note := func(name string, isZero bool, fault api.Fault) {
			faults[name] = fault
			if !isZero {
				t.Error(name, "returns something beside a fault")
			}
		}
		l := []api.Given{given("nobody", api.Value{Kind: 99})}
		names, fault := Depends(x.f, "nobody")
		note("Depends", names == nil, fault)
		n, fault := Mix(x.f, "nobody")
		note("Mix", n == 0, fault)
		names, fault = Reached(x.f, l)
		note("Reached", names == nil, fault)
		is, fault := Possible(x.f, l)
		note("Possible", !is, fault)
		l, fault = Reach(x.f, "nobody")
		note("Reach", l == nil, fault)
		names, fault = Dead(x.f)
		note("Dead", names == nil, fault)
		names, fault = Stuck(x.f)
		note("Stuck", names == nil, fault)
		facts, fault := Constant(x.f)
		note("Constant", facts == nil, fault)
		lists, fault := Cover(x.f)
		note("Cover", lists == nil, fault)
		for name, other := range map[string]api.Form{"Same with a right one": good, "Same": x.f} {
			is, l, fault = Same(x.f, other)
			note(name, !is && l == nil, fault)
			is, l, fault = Same(other, x.f)
			note(name+" behind it", !is && l == nil, fault)
		}
		for name, fault := range faults {
			if fault != x.want {
				t.Error(name, fault, "not", x.want)
			}
		}
	}
	// Same checks both forms ahead of whether they are plain.
	for _, x := range []struct {
		a, b api.Form
		want api.Fault
	}{{rough, wrong, api.ErrRange}, {wrong, rough, api.ErrRange}, {wrong, func() api.Form { f := fresh.Form(good); f.Name = ""; return f }(), api.ErrRange}} {
		if _, _, fault := Same(x.a, x.b); fault != x.want {
			t.Error("Same", fault)
		}
	}
}
