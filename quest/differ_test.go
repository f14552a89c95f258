package quest

import (
	"cmp"
	"slices"
	"strings"
	"testing"

	"canvass/api"
	"canvass/fresh"
)

func TestDifferences(t *testing.T) {
	f := formOf(t, houseText)
	route := func(name string) []api.Difference { return []api.Difference{{Kind: api.DiffRoute, Name: name}} }
	answer := func(name string) []api.Difference { return []api.Difference{{Kind: api.DiffAnswer, Name: name}} }
	phrase := func(name string) []api.Difference { return []api.Difference{{Kind: api.DiffPhrase, Name: name}} }
	list := func(name string) []api.Difference { return []api.Difference{{Kind: api.DiffList, Name: name}} }
	form := []api.Difference{{Kind: api.DiffForm}}
	order := func(name string) []api.Difference { return []api.Difference{{Kind: api.DiffOrder, Name: name}} }
	item := func(name string, change func(i *api.Item)) func(f *api.Form) {
		return func(f *api.Form) { change(itemOf(f, name)) }
	}
	answerOf := func(name string, change func(a *api.Answer)) func(f *api.Form) {
		return func(f *api.Form) { change(&itemOf(f, name).Answer) }
	}
	for _, x := range []struct {
		name   string
		change func(f *api.Form)
		want   []api.Difference
	}{
		{"nothing", func(f *api.Form) {}, nil},
		{"version", func(f *api.Form) { f.Version = 4 }, nil},
		{"empty lists", func(f *api.Form) { f.Items[0].If, f.Items[1].Phrase = []api.Expr{}, api.Phrase{} }, nil},
		{"order of lists", func(f *api.Form) { slices.Reverse(f.Lists) }, nil},
		{"name", func(f *api.Form) { f.Name = "home" }, form},
		{"language", func(f *api.Form) { f.Languages[1] = "fr" }, form},
		{"order of languages", func(f *api.Form) { slices.Reverse(f.Languages) }, form},
		// Routes.
		{"if", item("rest", func(i *api.Item) { i.If = exprsOf("total > 1") }), route("rest")},
		{"other if", item("many", func(i *api.Item) { i.If = exprsOf("got = #2") }), route("many")},
		{"no if", item("bye", func(i *api.Item) { i.If = nil }), route("bye")},
		{"shuffle", item("mixed", func(i *api.Item) { i.Shuffle = false }), route("mixed")},
		{"count", item("kids", func(i *api.Item) { i.Count = exprsOf("many + 0") }), route("kids")},
		{"count for over", item("toys", func(i *api.Item) { i.Count, i.Over = exprsOf("many"), "" }), route("toys")},
		{"compute", item("total", func(i *api.Item) { i.Compute = exprsOf("1") }), route("total")},
		{"kind", item("rest", func(i *api.Item) { i.Kind = api.ItemBlock }), route("rest")},
		{"kind and phrase", item("bye", func(i *api.Item) { i.Kind, i.Phrase = api.ItemPage, nil }), []api.Difference{{Kind: api.DiffRoute, Name: "bye"}, {Kind: api.DiffPhrase, Name: "bye"}}},
		{"no question", item("nick", func(i *api.Item) { i.Kind, i.Answer, i.Compute = api.ItemCompute, api.Answer{}, exprsOf("''") }), route("nick")},
		// Answers.
		{"low", answerOf("nick", func(a *api.Answer) { a.Low = 3 }), answer("nick")},
		{"high", answerOf("nick", func(a *api.Answer) { a.High = 30 }), answer("nick")},
		{"places", answerOf("age", func(a *api.Answer) { a.Places = 0 }), answer("age")},
		{"list", answerOf("got", func(a *api.Answer) { a.List = "colours" }), answer("got")},
		{"only", answerOf("likes", func(a *api.Answer) { a.Only = nil }), answer("likes")},
		{"other only", answerOf("likes", func(a *api.Answer) { a.Only = exprsOf("not option = #7 or got = #1") }), answer("likes")},
		{"options shuffled", answerOf("likes", func(a *api.Answer) { a.Shuffle = false }), answer("likes")},
		{"reasons", answerOf("got", func(a *api.Answer) { a.Reasons = a.Reasons[:1] }), answer("got")},
		{"need", answerOf("got", func(a *api.Answer) { a.Need = false }), answer("got")},
		{"answer kind", answerOf("nick", func(a *api.Answer) { a.Kind, a.Low, a.High = api.Choices, 2, 20; a.List = "yesno" }), answer("nick")},
		{"must", answerOf("many", func(a *api.Answer) { a.Checks[1].Must = exprOf("many > 2") }), answer("many")},
		{"soft", answerOf("many", func(a *api.Answer) { a.Checks[1].Soft = false }), answer("many")},
		{"a check less", answerOf("many", func(a *api.Answer) { a.Checks = a.Checks[:1] }), answer("many")},
		{"a check less, with a phrase", answerOf("many", func(a *api.Answer) { a.Checks = nil }), answer("many")},
		{"order of checks", answerOf("many", func(a *api.Answer) { slices.Reverse(a.Checks) }), []api.Difference{{Kind: api.DiffAnswer, Name: "many"}, {Kind: api.DiffPhrase, Name: "many"}}},
		// Phrases.
		{"phrase", item("got", func(i *api.Item) { i.Phrase[1] = "Kind?" }), phrase("got")},
		{"phrase of a page", item("rest", func(i *api.Item) { i.Phrase = api.Phrase{"", ""} }), phrase("rest")},
		{"phrase of a check", answerOf("many", func(a *api.Answer) { a.Checks[0].Phrase[0] = "x" }), phrase("many")},
		{"two phrases", item("many", func(i *api.Item) { i.Phrase, i.Answer.Checks[1].Phrase = nil, api.Phrase{"x", "y"} }), phrase("many")},
		// Lists.
		{"option", func(f *api.Form) { f.Lists[1].Options[0].Code = 8 }, list("colours")},
		{"alone", func(f *api.Form) { f.Lists[1].Options[0].Alone = true }, list("colours")},
		{"last", func(f *api.Form) { f.Lists[0].Options[0].Last = true }, list("yesno")},
		{"option phrase", func(f *api.Form) { f.Lists[0].Options[0].Phrase[0] = "Yep" }, list("yesno")},
		{"order of options", func(f *api.Form) { slices.Reverse(f.Lists[1].Options) }, list("colours")},
		{"an option less", func(f *api.Form) { f.Lists[1].Options = f.Lists[1].Options[:3] }, list("colours")},
		{"a list more", func(f *api.Form) { f.Lists = append(f.Lists, numberedLists(1)...) }, list("list0")},
		// Places.
		{"order", func(f *api.Form) { slices.Reverse(f.Items[4:]) }, order("")},
		{"order within", item("start", func(i *api.Item) { slices.Reverse(i.Items[1:]) }), order("start")},
		{"order within, and around renamed", item("mixed", func(i *api.Item) { i.Name = "new"; slices.Reverse(i.Items) }), []api.Difference{{Kind: api.DiffGone, Name: "mixed"}, {Kind: api.DiffNew, Name: "new"}, {Kind: api.DiffMoved, Name: "first"}, {Kind: api.DiffMoved, Name: "five"}, {Kind: api.DiffMoved, Name: "second"}}},
		{"order of others", func(f *api.Form) { f.Items = slices.Insert(f.Items, 0, page("z"), page("y")) }, []api.Difference{{Kind: api.DiffNew, Name: "y"}, {Kind: api.DiffNew, Name: "z"}}},
		{"moved in ahead", func(f *api.Form) {
			f.Items[1].Items, f.Items = slices.Insert(f.Items[1].Items, 0, f.Items[5]), f.Items[:5]
		}, []api.Difference{{Kind: api.DiffMoved, Name: "rest"}}},
		{"moved in, and order", func(f *api.Form) {
			slices.Reverse(f.Items[1].Items)
			f.Items[1].Items, f.Items = slices.Insert(f.Items[1].Items, 1, f.Items[5]), f.Items[:5]
		}, []api.Difference{{Kind: api.DiffMoved, Name: "rest"}, {Kind: api.DiffOrder, Name: "mixed"}}},
		{"moved to another level", func(f *api.Form) {
			f.Items = slices.Insert(f.Items, 1, page("around", f.Items[0].Items[2]))
			f.Items[0].Items = f.Items[0].Items[:2]
		}, []api.Difference{{Kind: api.DiffNew, Name: "around"}, {Kind: api.DiffMoved, Name: "likes"}}},
		{"moved in", func(f *api.Form) { f.Items[1].Items, f.Items = append(f.Items[1].Items, f.Items[5]), f.Items[:5] }, []api.Difference{{Kind: api.DiffMoved, Name: "rest"}}},
		{"moved out", func(f *api.Form) {
			f.Items = append(f.Items, f.Items[1].Items[2])
			f.Items[1].Items = f.Items[1].Items[:2]
		}, []api.Difference{{Kind: api.DiffMoved, Name: "five"}}},
		{"moved between", func(f *api.Form) {
			pages := f.Items[1].Items
			pages[0].Items = append(pages[0].Items, pages[1].Items[0])
			pages[1].Items = nil
		}, []api.Difference{{Kind: api.DiffMoved, Name: "nick"}}},
		{"around renamed", item("mixed", func(i *api.Item) { i.Name = "new" }), []api.Difference{{Kind: api.DiffGone, Name: "mixed"}, {Kind: api.DiffNew, Name: "new"}, {Kind: api.DiffMoved, Name: "first"}, {Kind: api.DiffMoved, Name: "five"}, {Kind: api.DiffMoved, Name: "second"}}},
	} {
		changed := fresh.Form(f)
		x.change(&changed)
		got, fault := Differences(f, changed)
		if fault != api.OK || !slices.Equal(got, x.want) {
			t.Error("Differences", x.name, got, fault)
		}
		back, fault := Differences(changed, f)
		if fault != api.OK || !slices.Equal(back, turned(x.want)) {
			t.Error("Differences back", x.name, back, fault)
		}
	}
}

// turned returns the differences with the first form as the second one.
func turned(l []api.Difference) []api.Difference {
	l = slices.Clone(l)
	for i, d := range l {
		switch d.Kind {
		case api.DiffGone:
			l[i].Kind = api.DiffNew
		case api.DiffNew:
			l[i].Kind = api.DiffGone
		}
	}
	slices.SortFunc(l, func(a, b api.Difference) int {
		return cmp.Or(a.Kind-b.Kind, strings.Compare(a.Name, b.Name))
	})
	return l
}

// TestManyDifferences has differences of all kinds, each of which is told once.
func TestManyDifferences(t *testing.T) {
	a := formOf(t, "form f 1\nlanguages en\nlist l\n  option 1\nlist m\n  option 1\npage p\n  text \"a\"\n  question q choice l\n    text \"a\"\n    check true\n      text \"a\"\n    check true\n      text \"b\"\nblock b\n  page c\n  page d\nend z\nend y\ncompute k = 1\n")
	b := formOf(t, "form g 2\nlanguages de\nlist l\n  option 2\nlist n\n  option 1\nend y\nend z\nblock b shuffle\n  page d\n  page c\n  page p\n    if true\n    text \"b\"\n    question q choice n need\n      text \"b\"\n      soft true\n        text \"b\"\n      check false\n        text \"c\"\n  compute j = 1\npage x\n")
	want := []api.Difference{
		{Kind: api.DiffGone, Name: "k"}, {Kind: api.DiffNew, Name: "j"}, {Kind: api.DiffNew, Name: "x"}, {Kind: api.DiffMoved, Name: "p"}, {Kind: api.DiffOrder}, {Kind: api.DiffOrder, Name: "b"}, {Kind: api.DiffRoute, Name: "b"}, {Kind: api.DiffRoute, Name: "p"}, {Kind: api.DiffAnswer, Name: "q"},
		{Kind: api.DiffPhrase, Name: "p"}, {Kind: api.DiffPhrase, Name: "q"}, {Kind: api.DiffList, Name: "l"}, {Kind: api.DiffList, Name: "m"}, {Kind: api.DiffList, Name: "n"}, {Kind: api.DiffForm},
	}
	if got, fault := Differences(a, b); !slices.Equal(got, want) || fault != api.OK {
		t.Error("Differences", got, fault)
	}
	wrong := api.Form{Name: "f"}
	for _, x := range []struct {
		a, b api.Form
		want api.Fault
	}{{wrong, api.Form{}, api.ErrRange}, {api.Form{}, wrong, api.ErrName}, {a, wrong, api.ErrRange}, {wrong, a, api.ErrRange}} {
		if got, fault := Differences(x.a, x.b); len(got) > 0 || fault != x.want {
			t.Error("Differences of wrong forms", got, fault)
		}
	}
}
