package quest

import (
	"reflect"
	"slices"
	"strings"
	"testing"

	"canvass/api"
	"canvass/fresh"
)

const spokenText = `form spoken 1
languages en de
list kinds
  option 1 "One {{or}} two" "Eins"
  option 2 "" ""
  option 3
  option 4 "Four" "Vier {{"
page start
  text "{{{1 + 1}}}" ""
  question kind choice kinds
    text "a" "b"
  question all choices kinds 0 4
  question word text 0 200
  question count number 0 9
  question when day @1900-01-01 @2199-12-31
compute same = kind
compute set = all
loop kids count count
  page kid
    question age number 0 9
      text "{age} of {row(kids)} of {count}" "x"
      check age > 0
      soft age > row(kids)
        text "{age} and {row(kids)}?" "{age < 2}"
  loop toys over all
    page toy
      text "{row(kids)}.{row(toys)}" "y"
      question pick choice kinds
  loop bare count 1
    page lone
block inner
  page rest
end bye
  text "Bye" "Ade"
end none
`

// spokenForm is a form whose page rest has a phrase.
func spokenForm(t *testing.T, texts ...string) api.Form {
	t.Helper()
	f := formOf(t, spokenText)
	itemOf(&f, "rest").Phrase = texts
	return f
}

func bound(name string, v api.Value, row ...int) api.Bound {
	return api.Bound{Name: name, Row: row, Value: v, Asked: true}
}

func numberValue(n int) api.Value       { return api.Value{Kind: api.Number, N: n} }
func textValue(s string) api.Value      { return api.Value{Kind: api.Text, S: s} }
func choiceValue(n int) api.Value       { return api.Value{Kind: api.Choice, N: n} }
func choicesValue(n ...int) api.Value   { return api.Value{Kind: api.Choices, Set: n} }
func dayValue(n int) api.Value          { return api.Value{Kind: api.Day, N: n} }
func specialValue(reason int) api.Value { return api.Value{Kind: api.Special, N: reason} }

// sceneOf returns the scene of a form with some bounds.
func sceneOf(t *testing.T, f api.Form, bounds ...api.Bound) api.Scene {
	t.Helper()
	s, fault := Blank(f)
	if fault != api.OK {
		t.Fatal("Blank", fault)
	}
	s.Bounds = bounds
	return s
}

func TestSpokenValues(t *testing.T) {
	bounds := []api.Bound{bound("all", choicesValue(1, 2, 3, 4, 9)), bound("count", numberValue(-125000)), bound("kind", choiceValue(4)), bound("same", choiceValue(4)), bound("set", choicesValue(1, 2, 3, 4, 9)), bound("when", dayValue(0)), bound("word", textValue("it's {x} }} #1"))}
	for _, x := range [][3]string{
		{"", "", ""}, {"a b", "a b", "a b"}, {"{{a}}", "{a}", "{a}"}, {"}}{{{{", "}{{", "}{{"},
		{"{word}", "it's {x} }} #1", "it's {x} }} #1"}, {"{lower('A''}{')}", "a'}{", "a'}{"},
		{"{count}", "-12.5", "-12.5"}, {"<{count * 2 + 1}>", "<-24>", "<-24>"},
		{"{when}", "1970-01-01", "1970-01-01"}, {"{later(when, 31)}.", "1970-02-01.", "1970-02-01."},
		{"{kind}", "Four", "Vier {{"}, {"{ (kind) }", "Four", "Vier {{"}, {"{else(kind, kind)}", "4", "4"}, {"{#4}", "4", "4"}, {"{same}", "4", "4"},
		{"{all}", "One {{or}} two, , , Four, 9", "Eins, , , Vier {{, 9"}, {"{set}", "1, 2, 3, 4, 9", "1, 2, 3, 4, 9"}, {"{if(true, all, set)}", "1, 2, 3, 4, 9", "1, 2, 3, 4, 9"},
		{"{1 = 1} {answered(word)}", "yes yes", "yes yes"}, {"{1 = 2}{asked(count) and false}", "nono", "nono"},
		{"{1 / 0}", "", ""}, {"a{word}b{1 mod 0}c", "ait's {x} }} #1bc", "ait's {x} }} #1bc"},
	} {
		f := spokenForm(t, x[0], x[0])
		for language := range 2 {
			if got, fault := Spoken(f, "rest", language, sceneOf(t, f, bounds...), nil); got != x[1+language] || fault != api.OK {
				t.Errorf("Spoken of %q is %q, %d", x[0], got, fault)
			}
		}
	}
	// What is missing reads like nothing; a Bool is then false.
	missing := [][]api.Bound{nil, {bound("all", specialValue(1)), bound("count", specialValue(2)), bound("kind", api.Value{}), bound("when", specialValue(3)), bound("word", api.Value{})}, {{Name: "all", Value: choicesValue(1)}, {Name: "count", Value: numberValue(1)}, {Name: "word", Value: textValue("x")}}}
	for _, bounds := range missing {
		f := spokenForm(t, "<{all}{count}{kind}{when}{word}{same}{set}>{count > 1}{else(count > 1, true)}", "")
		if got, fault := Spoken(f, "rest", 0, sceneOf(t, f, bounds...), nil); got != "<>nono" || fault != api.OK {
			t.Errorf("Spoken of what is missing is %q, %d", got, fault)
		}
	}
	f := spokenForm(t, "{all}|{kind}", "")
	for _, x := range []struct {
		all, kind api.Value
		want      string
	}{
		{choicesValue(), choiceValue(3), "|"}, {choicesValue(2), choiceValue(2), "|"}, {choicesValue(7), choiceValue(8), "7|8"}, {choicesValue(2, 3), choiceValue(1), ", |One {{or}} two"},
	} {
		if got, fault := Spoken(f, "rest", 0, sceneOf(t, f, bound("all", x.all), bound("kind", x.kind)), nil); got != x.want || fault != api.OK {
			t.Errorf("Spoken of codes is %q, %d, not %q", got, fault, x.want)
		}
	}
}

func TestSpokenPlaces(t *testing.T) {
	f := spokenForm(t)
	s := sceneOf(t, f, bound("age", numberValue(10000), 2), bound("age", numberValue(50000), 3), bound("count", numberValue(30000)))
	for _, x := range []struct {
		where    string
		language int
		row      []int
		want     string
		fault    api.Fault
	}{
		{"start", 0, nil, "{2}", api.OK}, {"start", 1, nil, "", api.OK}, {"kind", 1, nil, "b", api.OK}, {"rest", 0, nil, "", api.OK}, {"word", 1, []int{}, "", api.OK}, {"bye", 1, nil, "Ade", api.OK}, {"none", 0, nil, "", api.OK}, {"kid", 0, []int{1}, "", api.OK},
		{"age", 0, []int{2}, "1 of 2 of 3", api.OK}, {"age", 0, []int{999}, " of 999 of 3", api.OK}, {"age/check/0", 0, []int{1}, "", api.OK}, {"age/check/1", 0, []int{3}, "5 and 3?", api.OK}, {"age/check/1", 1, []int{2}, "yes", api.OK}, {"toy", 0, []int{4, 7}, "4.7", api.OK},
		{":kinds/1", 0, nil, "One {or} two", api.OK}, {":kinds/2", 1, nil, "", api.OK}, {":kinds/3", 1, nil, "", api.OK}, {":kinds/4", 1, nil, "Vier {", api.OK},
		{"", 0, nil, "", api.ErrNone}, {"nobody", 0, nil, "", api.ErrNone}, {"kids", 0, nil, "", api.ErrNone}, {"inner", 0, nil, "", api.ErrNone}, {"same", 0, nil, "", api.ErrNone}, {"kinds", 0, nil, "", api.ErrNone}, {"option", 0, nil, "", api.ErrNone}, {"age/check", 0, []int{1}, "", api.ErrNone}, {"age/check/", 0, []int{1}, "", api.ErrNone}, {"age/check/2", 0, []int{1}, "", api.ErrNone}, {"age/check/-1", 0, []int{1}, "", api.ErrNone}, {"age/check/00", 0, []int{1}, "", api.ErrNone}, {"age/check/+1", 0, []int{1}, "", api.ErrNone}, {"kind/check/0", 0, nil, "", api.ErrNone}, {"start/check/0", 0, nil, "", api.ErrNone}, {"age/0", 0, []int{1}, "", api.ErrNone}, {"age/", 0, []int{1}, "", api.ErrNone},
		{"kinds/1", 0, nil, "", api.ErrNone}, {":kinds", 0, nil, "", api.ErrNone}, {":kinds/", 0, nil, "", api.ErrNone}, {":kinds/5", 0, nil, "", api.ErrNone}, {":kinds/01", 0, nil, "", api.ErrNone}, {":kinds/#1", 0, nil, "", api.ErrNone}, {":kind/1", 0, nil, "", api.ErrNone}, {":age/check/0", 0, nil, "", api.ErrNone}, {"age/check/0/", 0, nil, "", api.ErrNone},
		{"start", -1, nil, "", api.ErrRange}, {"start", 2, nil, "", api.ErrRange}, {"nobody", 2, nil, "", api.ErrNone}, {"start", 2, []int{1}, "", api.ErrRange}, {"rest", 2, nil, "", api.ErrRange},
		{"start", 0, []int{1}, "", api.ErrForm}, {"start", 0, []int{0}, "", api.ErrForm}, {"age", 0, nil, "", api.ErrForm}, {"age", 0, []int{1, 2}, "", api.ErrForm}, {"age/check/1", 0, nil, "", api.ErrForm}, {"toy", 0, []int{1}, "", api.ErrForm}, {"toy", 0, []int{1, 2, 3}, "", api.ErrForm}, {":kinds/1", 0, []int{1}, "", api.ErrForm}, {":kinds/3", 0, []int{0}, "", api.ErrForm}, {"kid", 0, nil, "", api.ErrForm},
		{"age", 0, []int{0}, "", api.ErrRange}, {"age", 0, []int{1000}, "", api.ErrRange}, {"toy", 0, []int{1, -1}, "", api.ErrRange}, {"toy", 0, []int{0, 1, 2}, "", api.ErrForm}, {"kid", 1, []int{0}, "", api.ErrRange},
	} {
		if got, fault := Spoken(f, x.where, x.language, s, x.row); got != x.want || fault != x.fault {
			t.Errorf("Spoken of %s, %d, %v is %q, %d", x.where, x.language, x.row, got, fault)
		}
	}
	wrong := fresh.Form(f)
	wrong.Version = 0
	if got, fault := Spoken(wrong, "nobody", 0, s, nil); got != "" || fault != api.ErrRange {
		t.Error("Spoken in a wrong form", got, fault)
	}
}

// wrongScenes are scenes that are none of the form with spokenText, with the errors that they have.
func wrongScenes(s api.Scene) map[string]struct {
	scene api.Scene
	want  api.Fault
} {
	type wrong = struct {
		scene api.Scene
		want  api.Fault
	}
	changed := func(want api.Fault, change func(s *api.Scene)) wrong {
		s := fresh.Scene(s)
		change(&s)
		return wrong{s, want}
	}
	last := len(s.Cells) - 1
	return map[string]wrong{
		"no scene":     changed(api.ErrKind, func(s *api.Scene) { s.Cells[last].Kind = 1 }),
		"bound":        changed(api.ErrName, func(s *api.Scene) { s.Bounds = []api.Bound{{Name: "z"}} }),
		"option bound": changed(api.ErrName, func(s *api.Scene) { s.Bounds = []api.Bound{{Name: "option", Value: choiceValue(1)}} }),
		"kind":         changed(api.ErrForm, func(s *api.Scene) { s.Cells[last].Kind = 9 - s.Cells[last].Kind }),
		"name":         changed(api.ErrForm, func(s *api.Scene) { s.Cells[last].Name = "z" }),
		"loops":        changed(api.ErrForm, func(s *api.Scene) { s.Cells[last].Loops = []string{"kids"} }),
		"order":        changed(api.ErrForm, func(s *api.Scene) { slices.Reverse(s.Cells) }),
		"cell less":    changed(api.ErrForm, func(s *api.Scene) { s.Cells = s.Cells[:last] }),
		"cell more":    changed(api.ErrForm, func(s *api.Scene) { s.Cells = append(s.Cells, api.Cell{Name: "option", Kind: api.Choice}) }),
		"loop more":    changed(api.ErrForm, func(s *api.Scene) { s.Loops = append(s.Loops, api.Nest{Name: "z"}) }),
		"loop name":    changed(api.ErrForm, func(s *api.Scene) { s.Loops[len(s.Loops)-1].Name = "z" }),
		"loop place":   changed(api.ErrForm, func(s *api.Scene) { s.Loops[len(s.Loops)-1].Loops = nil }),
		"nothing":      {api.Scene{}, api.ErrForm},
	}
}

func TestSpokenScenes(t *testing.T) {
	f := spokenForm(t, "{word}", "")
	s := sceneOf(t, f)
	for name, x := range wrongScenes(s) {
		// The scene comes ahead of row, and behind the language.
		if got, fault := Spoken(f, "age", 0, x.scene, []int{0}); got != "" || fault != x.want {
			t.Error("Spoken in a wrong scene", name, got, fault)
		}
		if got, fault := Spoken(f, "rest", 2, x.scene, []int{1}); got != "" || fault != api.ErrRange {
			t.Error("Spoken in a wrong scene", name, got, fault)
		}
	}
	s.Cells[0].Loops = []string{}
	if got, fault := Spoken(f, "rest", 0, s, nil); got != "" || fault != api.OK {
		t.Error("Spoken with an empty list that is not nil", got, fault)
	}
}

func TestLargeSpoken(t *testing.T) {
	text := strings.Repeat("{word}", 15) + "x"
	f := spokenForm(t, text, text[1:len(text)-1]+"}")
	itemOf(&f, "rest").Phrase[1] = strings.Repeat("{word}", 15)
	full := sceneOf(t, f, bound("word", textValue(strings.Repeat("w", 200))))
	if got, fault := Spoken(f, "rest", 1, full, nil); len(got) != 10*api.MaxPhrase || fault != api.OK {
		t.Error("Spoken of a long text", len(got), fault)
	}
	if got, fault := Spoken(f, "rest", 0, full, nil); got != "" || fault != api.ErrLarge {
		t.Error("Spoken of a text that is too long", len(got), fault)
	}
	if got, fault := Spoken(f, "rest", 0, full, []int{1}); got != "" || fault != api.ErrForm {
		t.Error("Spoken of a text that is too long, for a wrong row", len(got), fault)
	}
}

func TestEntries(t *testing.T) {
	f := spokenForm(t, "r", "s")
	want := func(language int) []api.Entry {
		var l []api.Entry
		for _, x := range [][3]string{
			{":kinds/1", "One {{or}} two", "Eins"}, {":kinds/2", "", ""}, {":kinds/4", "Four", "Vier {{"}, {"start", "{{{1 + 1}}}", ""}, {"kind", "a", "b"}, {"age", "{age} of {row(kids)} of {count}", "x"}, {"age/check/1", "{age} and {row(kids)}?", "{age < 2}"}, {"toy", "{row(kids)}.{row(toys)}", "y"}, {"rest", "r", "s"}, {"bye", "Bye", "Ade"},
		} {
			l = append(l, api.Entry{Where: x[0], Text: x[1+language]})
		}
		return l
	}
	for language := range 2 {
		if got, fault := Entries(f, language); !slices.Equal(got, want(language)) || fault != api.OK {
			t.Error("Entries", got, fault)
		}
	}
	for _, language := range []int{-1, 2, 99} {
		if got, fault := Entries(f, language); len(got) > 0 || fault != api.ErrRange {
			t.Error("Entries of no language", got, fault)
		}
	}
	f.Items[0].Kind = 9
	if got, fault := Entries(f, 9); len(got) > 0 || fault != api.ErrKind {
		t.Error("Entries of a wrong form", got, fault)
	}
}

func TestTranslated(t *testing.T) {
	f := spokenForm(t)
	l, _ := Entries(f, 0)
	for i := range l {
		l[i].Text += "!"
	}
	slices.Reverse(l)
	for language, n := range map[string]int{"fr": 2, "de": 1, "en": 0} {
		g, fault := Translated(f, language, l)
		if fault != api.OK || g.Languages[n] != language || len(g.Languages) != max(2, n+1) {
			t.Fatal("Translated", language, g.Languages, fault)
		}
		for other := range g.Languages {
			got, _ := Entries(g, other)
			want := slices.Clone(l)
			slices.Reverse(want)
			if other != n {
				want, _ = Entries(f, other)
			}
			if !slices.Equal(got, want) {
				t.Error("Translated", language, other, got)
			}
		}
	}
	// Nothing else is other.
	g, _ := Translated(f, "en", l)
	first, _ := Entries(f, 0)
	if back, fault := Translated(g, "en", first); fault != api.OK || !Equal(f, back) || Equal(f, g) {
		t.Error("Translated back is another form", fault)
	}
	if !Equal(f, spokenForm(t)) {
		t.Error("Translated changes its form")
	}
}

func TestTranslatedErrors(t *testing.T) {
	f := spokenForm(t)
	l, _ := Entries(f, 0)
	with := func(l []api.Entry, more ...api.Entry) []api.Entry { return slices.Concat(l, more) }
	long := slices.Clone(l)
	long[5].Text = strings.Repeat("x", 301)
	pipe := slices.Clone(l)
	pipe[0].Text = "{1}"
	full := fresh.Form(f)
	for _, language := range []string{"l3", "l4", "l5", "l6"} {
		full, _ = Translated(full, language, l)
	}
	wrong := fresh.Form(f)
	wrong.Version = 0
	for _, x := range []struct {
		name, language string
		form           api.Form
		l              []api.Entry
		want           api.Fault
	}{
		{"form", "F", wrong, nil, api.ErrRange}, {"language", "Fr", f, with(l, l[0]), api.ErrName}, {"no language", "", f, l, api.ErrName}, {"word", "or", f, nil, api.ErrName},
		{"twice", "fr", f, with(l, l[3]), api.ErrTwice}, {"twice, and few", "fr", f, with(l[:2], l[1]), api.ErrTwice}, {"other text", "fr", f, with(l, api.Entry{Where: l[0].Where, Text: "x"}), api.ErrTwice},
		{"nowhere", "fr", f, with(l, api.Entry{Where: "x"}), api.ErrNone}, {"nowhere, and few", "fr", f, []api.Entry{{Where: "kids"}}, api.ErrNone}, {"without texts", "fr", f, with(l, api.Entry{Where: ":kinds/3"}), api.ErrNone}, {"without texts", "fr", f, with(l, api.Entry{Where: "age/check/0"}), api.ErrNone},
		// One element after the other.
		{"nowhere ahead of twice", "fr", f, with([]api.Entry{{Where: "x"}}, l[0], l[0]), api.ErrNone}, {"twice ahead of nowhere", "fr", f, with(l, l[0], api.Entry{Where: "x"}), api.ErrTwice},
		{"few", "fr", f, l[1:], api.ErrMissing}, {"few", "de", f, l[:len(l)-1], api.ErrMissing}, {"none", "en", f, nil, api.ErrMissing}, {"few, and wrong", "fr", f, long[1:], api.ErrMissing},
		{"long", "fr", f, long, api.ErrLarge}, {"pipe of an option", "de", f, pipe, api.ErrSyntax}, {"many languages", "l7", full, l, api.ErrLarge}, {"many, and few", "l7", full, l[1:], api.ErrMissing},
	} {
		if got, fault := Translated(x.form, x.language, x.l); fault != x.want || !reflect.DeepEqual(got, api.Form{}) {
			t.Error("Translated", x.name, fault)
		}
	}
	if g, fault := Translated(full, "l6", l); fault != api.OK || !Equal(g, full) {
		t.Error("Translated of one of six languages", fault)
	}
	one := formOf(t, "form a 1\nlanguages en\npage p\n  text \"x\"\n")
	if g, fault := Translated(one, "de", []api.Entry{{Where: "p", Text: "y"}}); fault != api.OK || !slices.Equal(g.Items[0].Phrase, []string{"x", "y"}) {
		t.Error("Translated of one language", g, fault)
	}
	if _, fault := Translated(one, "de", nil); fault != api.ErrMissing {
		t.Error("Translated of one language, without its text", fault)
	}
	empty := formOf(t, "form a 1\nlanguages en\npage p\n")
	if g, fault := Translated(empty, "de", nil); fault != api.OK || !slices.Equal(g.Languages, []string{"en", "de"}) {
		t.Error("Translated of no texts", g, fault)
	}
}
