package proof

import (
	"slices"
	"strconv"
	"testing"

	"canvass/api"
	"canvass/fresh"
)

func TestSameQuestions(t *testing.T) {
	const x = "page p\n  question x number 0 9 need\n"
	for _, c := range []struct {
		a, b string
		same bool
		told string // what tells them apart, if there is just one way
	}{
		{"", "", true, ""},
		{"page p\n", "block b\nend e\n", true, ""},
		{x, "page p\n", false, ""},
		{"page p\n", x, false, ""},
		{"end e\n" + x, "page p\n", true, ""},
		{x + "  question y text 0 5\n    if x > 3\n", x + "  question y text 0 5\n    if not x <= 3\n", true, ""},
		{x + "  question y text 0 5\n    if x > 3\n", x + "  question y text 0 5\n    if 4 <= x\n", true, ""},
		{x + "  question y text 0 5\n    if x > 3\n", x + "  question y text 0 5\n    if x >= 4.5\n", false, "x 4 "},
		{x + "  question y text 0 5\n    if x > 3\n", x + "  question y text 0 5\n    if x > 3 and x < 9\n", false, "x 9 "},
		// Only what is accepted counts.
		{x + "  question y text 0 5\n    if x < 99\n", x + "  question y text 0 5\n", true, ""},
		{x + "  question y text 0 5\n    if reason(x) = 0 and answered(x)\n", x + "  question y text 0 5\n", true, ""},
		// The order and the places of questions are of no matter.
		{"page p\n  question a choice two\n  question b choice two\n", "page q\n  question b choice two\nblock c\n  page r\n    question a choice two\n", true, ""},
		// All values are looked at, not just possible answers: what is not reached has one, too.
		{"page p\n  question a choice two need\n  question b choice two need\n    if a = #1\n  question c choice two\n    if b = #2\n", "page p\n  question a choice two need\n  question b choice two need\n    if a = #1\n  question c choice two\n    if a = #1 and b <> #1\n", true, ""},
		{"page p\n  question a choice two need\n  question b choice two need\n  question c choice two\n    if b = #2\n", "page p\n  question a choice two need\n  question b choice two need\n    if a = #1\n  question c choice two\n    if b = #2\n", false, ""},
		// A computed value, a block or an end in one form alone.
		{"page p\n  question a choice two\n  compute k = a = #1\n  question b choice two\n    if k\n", "page p\n  question a choice two\n  question b choice two\n    if a in {#1}\n", true, ""},
		{"page p\n  question a choice two need\nend e\n  if a = #1\npage q\n  question b choice two\n", "page p\n  question a choice two need\n  question b choice two\n    if a <> #1\n", true, ""},
		{"page p\n  question a choice two need\nend e\n  if a = #1\npage q\n  question b choice two\n", "page p\n  question a choice two need\n  question b choice two\n    if a <> #2\n", false, ""},
		// Some question has no value.
		{x + "  question n number 0.5 0.7 need\n", "page p\n", true, ""},
		{"page p\n", x + "  question s choices mix 4 9 need\n    if false\n", true, ""},
		{"page p\n  question n number 0.5 0.7\n", "page p\n", false, ""},
		// An item that is no question can have another kind.
		{"page p\n", "block p\n", true, ""},
	} {
		same, l, fault := Same(pagesOf(t, c.a), pagesOf(t, c.b))
		if same != c.same || fault != api.OK || same && l != nil || c.told != "" && wordsOf(l) != c.told {
			t.Error("Same", c.a, c.b, same, wordsOf(l), fault)
		}
		back, l, fault := Same(pagesOf(t, c.b), pagesOf(t, c.a))
		if back != c.same || fault != api.OK || back && l != nil || c.told != "" && wordsOf(l) != c.told {
			t.Error("Same in the other order", c.b, c.a, back, wordsOf(l), fault)
		}
		compareSame(t, pagesOf(t, c.a), pagesOf(t, c.b), 2000)
	}
}

// TestTellApart holds that values for all questions come on which a question depends in one form or the other one, also if they are not reached.
func TestTellApart(t *testing.T) {
	a := pagesOf(t, "page p\n  question a choice two need\n  question b choice two need\n    if a = #1\n  question c choice two need\n  question d choice two\n    if b = #1 and a = #1\n")
	b := pagesOf(t, "page p\n  question a choice two need\n  question b choice two need\n    if a = #1\n  question c choice two need\n  question d choice two\n    if c = #1\n  question e choice two\n")
	itemOf(b.Items, "e").If = []api.Expr{exprOf(t, "false")}
	same, l, fault := Same(a, b)
	if same || !slices.Equal(namesOf(l), []string{"a", "b", "c"}) || fault != api.OK {
		t.Error("Same", same, wordsOf(l), fault)
	}
	if told := apartBy(a, b, l); !slices.Equal(told, []string{"d"}) {
		t.Error("Same tells apart", told, wordsOf(l))
	}
	// Of several questions that differ, one is told for whose dependences the values are.
	a = pagesOf(t, "page p\n  question a choice two need\n  question b choice two need\n  question c text 0 5\n    if a = #1\n  question d text 0 5\n    if b = #1\n")
	b = pagesOf(t, "page p\n  question a choice two need\n  question b choice two need\n  question c text 0 5\n    if a = #2\n  question d text 0 5\n    if b = #2\n")
	if same, l, fault = Same(a, b); same || len(l) != 1 || fault != api.OK || len(apartBy(a, b, l)) != 1 {
		t.Error("Same", same, wordsOf(l), fault)
	}
	// Here the missing answer to b would tell d apart, too, but an answer to a alone can be found that tells c.
	b = pagesOf(t, "page p\n  question a choice two need\n  question b choice two need\n  question c text 0 5\n    if a = #2\n  question d text 0 5\n    if b <> #2 or a = #1\n")
	if same, l, fault = Same(a, b); same || wordsOf(l) != "a #2 " || fault != api.OK {
		t.Error("Same", same, wordsOf(l), fault)
	}
	// And here it always does, so any values will do.
	b = pagesOf(t, "page p\n  question a choice two need\n  question b choice two need\n  question c text 0 5\n    if a = #2\n  question d text 0 5\n    if not b = #2 or not answered(b)\n")
	if same, l, fault = Same(a, b); same || len(l) != 1 || fault != api.OK {
		t.Error("Same", same, wordsOf(l), fault)
	}
}

func TestSameFaults(t *testing.T) {
	const full = "page p\n  question n number 0 9 places 1 need reasons refused\n  question c choice two\n  question s choices mix 0 2\n  question w text 0 5\n  compute k = true\n"
	a := pagesOf(t, full)
	hold := func(what string, want api.Fault, change func(f *api.Form)) {
		t.Helper()
		b := fresh.Form(a)
		change(&b)
		for _, x := range [][2]api.Form{{a, b}, {b, a}} {
			same, l, fault := Same(x[0], x[1])
			if fault != want || l != nil || same != (want == api.OK) {
				t.Error("Same with", what, same, l, fault)
			}
		}
	}
	answer := func(f *api.Form, name string) *api.Answer { return &itemOf(f.Items, name).Answer }
	only := []api.Expr{exprOf(t, "true")}
	hold("nothing", api.OK, func(*api.Form) {})
	hold("an Only", api.ErrKind, func(f *api.Form) { answer(f, "c").Only = only })
	hold("an Only ahead of another answer", api.ErrKind, func(f *api.Form) { answer(f, "s").Only = only; answer(f, "n").Low = 1 })
	hold("another Low", api.ErrType, func(f *api.Form) { answer(f, "n").Low = 1 })
	hold("another High", api.ErrType, func(f *api.Form) { answer(f, "w").High = 4 })
	hold("other Places", api.ErrType, func(f *api.Form) { answer(f, "n").Places = 2 })
	hold("another Need", api.ErrType, func(f *api.Form) { answer(f, "c").Need = true })
	hold("other Reasons", api.ErrType, func(f *api.Form) { answer(f, "n").Reasons = []int{1, 2} })
	hold("another Kind", api.ErrType, func(f *api.Form) { answer(f, "w").Kind = api.Number })
	hold("another List", api.ErrType, func(f *api.Form) { answer(f, "c").List = "mix" })
	hold("another option", api.ErrType, func(f *api.Form) { f.Lists[1].Options[0].Code = 8 })
	hold("a further option", api.ErrType, func(f *api.Form) { f.Lists[0].Options = append(f.Lists[0].Options, api.Option{Code: 3}) })
	hold("another Alone", api.ErrType, func(f *api.Form) { f.Lists[1].Options[2].Alone = true })
	hold("another order of options", api.ErrType, func(f *api.Form) { slices.Reverse(f.Lists[0].Options) })
	hold("a question for a computed value", api.ErrType, func(f *api.Form) {
		*itemOf(f.Items, "k") = api.Item{Kind: api.ItemQuestion, Name: "k", Answer: api.Answer{Kind: api.Text}}
	})
	hold("a page for a question", api.ErrType, func(f *api.Form) {
		f.Items[0].Items = slices.DeleteFunc(f.Items[0].Items, func(item api.Item) bool { return item.Name == "w" })
		f.Items = append(f.Items, api.Item{Kind: api.ItemPage, Name: "w"})
	})
	// What is of no matter.
	hold("another name of the list", api.OK, func(f *api.Form) { f.Lists[0].Name = "duo"; answer(f, "c").List = "duo" })
	hold("Last and phrases", api.OK, func(f *api.Form) {
		f.Lists[0].Options[0].Last, f.Lists[0].Options[0].Phrase = true, api.Phrase{"One"}
		itemOf(f.Items, "c").Phrase = api.Phrase{"Which?"}
	})
	hold("Shuffle and Checks", api.OK, func(f *api.Form) {
		answer(f, "c").Shuffle = true
		answer(f, "c").Checks = []api.Rule{{Must: exprOf(t, "code(c) + 1 = 2"), Soft: true}}
	})
	hold("another list that no question has", api.OK, func(f *api.Form) {
		f.Lists = append(f.Lists, api.List{Name: "other", Options: []api.Option{{Code: 9}}})
	})
	hold("another name, version and language", api.OK, func(f *api.Form) { f.Name, f.Version, f.Languages = "g", 2, []string{"de", "fr"} })
	// A name that is no question's may be that of other items.
	hold("a page for a computed value", api.OK, func(f *api.Form) {
		*itemOf(f.Items, "k") = api.Item{Kind: api.ItemBlock, Name: "k"}
	})
}

// TestSameLarge holds that what two forms say of a question counts together.
func TestSameLarge(t *testing.T) {
	first, second := screened(t, 12, ""), screened(t, 12, "")
	last := itemOf(second.Items, "last")
	last.If = []api.Expr{exprOf(t, "more = 1")}
	more := api.Item{Kind: api.ItemQuestion, Name: "more", Answer: api.Answer{Kind: api.Number, High: 90000, Need: true}}
	second.Items[0].Items = slices.Insert(second.Items[0].Items, 0, more)
	if n, fault := Mix(second, "last"); n != 4 || fault != api.OK {
		t.Error("Mix", n, fault)
	}
	for _, x := range [][2]api.Form{{first, second}, {second, first}} {
		if same, l, fault := Same(x[0], x[1]); same || l != nil || fault != api.ErrLarge {
			t.Error("Same", same, l, fault)
		}
	}
	// Samples have the constants of both forms: 4 * 1024 and 3 * 1024 mixtures alone, 5 * 1024 together.
	var forms [2]api.Form
	for i, constant := range []string{"3", "9"} {
		lines, condition := "page p\n  question n number 2 9 need\n", "    if n >= "+constant
		for k := range 10 {
			lines += "  question q" + strconv.Itoa(k) + " choice two need\n"
			condition += " and q" + strconv.Itoa(k) + " = #2"
		}
		forms[i] = pagesOf(t, lines+"  question last choice two\n"+condition+"\n")
		if n, fault := Mix(forms[i], "last"); n != (4-i)*1024 || fault != api.OK {
			t.Error("Mix", n, fault)
		}
	}
	if _, _, fault := Same(forms[0], forms[1]); fault != api.ErrLarge {
		t.Error("Same with the constants of both", fault)
	}
	// Pages do not count: just questions do.
	wide := screened(t, 13, "")
	wide.Items[0].Items = wide.Items[0].Items[:13]
	wide.Items = append(wide.Items, api.Item{Kind: api.ItemPage, Name: "q", If: itemOf(screened(t, 13, "").Items, "last").If})
	if _, fault := Mix(wide, "q"); fault != api.ErrLarge {
		t.Error("Mix of a page", fault)
	}
	if same, l, fault := Same(wide, wide); !same || l != nil || fault != api.OK {
		t.Error("Same", same, l, fault)
	}
}
