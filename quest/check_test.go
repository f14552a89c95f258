package quest

import (
	"slices"
	"strconv"
	"strings"
	"testing"

	"canvass/api"
	"canvass/fresh"
	"canvass/value"
)

// houseText is the text of a form with items, answers, phrases and conditions of all kinds.
const houseText = `form house 3
languages en de
list yesno
  option 1 "Yes" "Ja"
  option 2 last "No" "Nein"
list colours
  option 3 "Red {{1}}" "Rot"
  option 1 alone
  option 7 last "Blue" "Blau"
  option 5 "Green" "Gruen"
page start
  text "Welcome" "Willkommen"
  question got choice yesno need reasons dontknow refused
    text "Any kids?" "Kinder?"
  question many number 1 5
    if got = #1
    text "How many, {many}?" "Wie viele?"
    check many < 5 or got = #2
      text "So many ({many})?" "So viele?"
    soft many > 1
  question likes choices colours 0 3 shuffle
    only not option = #3 or got = #1
block mixed shuffle
  page first
    question born day @1900-01-01 @2026-11-17
  page second
    question nick text 2 20
  compute five = 5
loop kids count many
  page kid
    question age number -1.5 120 places 1
      text "How old is {row(kids)} of {many}?" "Wie alt?"
  loop toys over likes
    page toy
      question price number 0 100 places 2
compute total = sum(kids: age)
end bye
  if total > 100
  text "Bye, {nick}." "Tschau, {nick}."
page rest
`

func formOf(t *testing.T, text string) api.Form {
	t.Helper()
	f, line, fault := Read(text)
	if fault != api.OK {
		t.Fatalf("Read: %d at line %d", fault, line)
	}
	return f
}

// itemOf returns an item of a form, to be changed.
func itemOf(f *api.Form, name string) *api.Item {
	var find func(items []api.Item) *api.Item
	find = func(items []api.Item) *api.Item {
		for i := range items {
			if items[i].Name == name {
				return &items[i]
			}
			if found := find(items[i].Items); found != nil {
				return found
			}
		}
		return nil
	}
	return find(f.Items)
}

func exprOf(text string) api.Expr {
	e, _, fault := value.Parse(text)
	if fault != api.OK {
		panic(text)
	}
	return e
}

func exprsOf(text string) []api.Expr { return []api.Expr{exprOf(text)} }

// breach is a change by which a form is not right.
type breach struct {
	name   string
	change func(f *api.Form)
	want   api.Fault
}

// breachOf is a change of an item.
func breachOf(item string, change func(i *api.Item), want api.Fault) breach {
	return breach{item, func(f *api.Form) { change(itemOf(f, item)) }, want}
}

// holdBreaches makes each one of the breaches, which stand in the order in which they are to be found, and each two of them together.
func holdBreaches(t *testing.T, f api.Form, breaches []breach) {
	t.Helper()
	for i, first := range breaches {
		for j, second := range breaches[i:] {
			wrong := fresh.Form(f)
			second.change(&wrong)
			if j > 0 {
				first.change(&wrong)
			}
			if fault := Check(wrong); fault != first.want {
				t.Errorf("Check is %d with the breaches %d (%s, %d) and %d (%s, %d)", fault, i, first.name, first.want, i+j, second.name, second.want)
			}
		}
	}
}

func TestCheckAccepts(t *testing.T) {
	f := formOf(t, houseText)
	for _, change := range []func(f *api.Form){
		func(f *api.Form) {},
		func(f *api.Form) { f.Version = 1 },
		func(f *api.Form) { f.Version = 9999 },
		func(f *api.Form) {
			f.Lists = append(f.Lists, api.List{Name: "house", Options: []api.Option{{Code: 999}}})
		},
		func(f *api.Form) { f.Languages = []string{"got", "start"} },
		func(f *api.Form) { itemOf(f, "rest").Name = "option1" },
		func(f *api.Form) {
			itemOf(f, "nick").Answer.Checks = slices.Repeat([]api.Rule{{Must: exprOf("true")}}, api.MaxChecks)
		},
		func(f *api.Form) { itemOf(f, "nick").Answer.Reasons = []int{1, 2, 3} },
		func(f *api.Form) { itemOf(f, "nick").Answer.Low = 20 },
		func(f *api.Form) { itemOf(f, "nick").Answer.High = api.MaxText },
		func(f *api.Form) { itemOf(f, "likes").Answer.High = api.MaxSet },
		func(f *api.Form) {
			itemOf(f, "born").Answer.Low, itemOf(f, "born").Answer.High = api.MinDay, api.MaxDay
		},
		func(f *api.Form) {
			itemOf(f, "age").Answer.Low, itemOf(f, "age").Answer.High = -api.MaxNumber, api.MaxNumber
		},
		func(f *api.Form) { itemOf(f, "age").Answer.Places = 4 },
		func(f *api.Form) { itemOf(f, "bye").Phrase = api.Phrase{strings.Repeat("{{", 150), " ~"} },
		func(f *api.Form) { itemOf(f, "rest").Phrase = api.Phrase{"", ""} },
		func(f *api.Form) { f.Lists, f.Items = nil, nil },
	} {
		right := fresh.Form(f)
		change(&right)
		if fault := Check(right); fault != api.OK {
			t.Error("Check of a right form", fault)
		}
	}
	f.Languages = []string{"a", "b", "c", "d", "e", "f"}
	f.Items, f.Lists = nil, nil
	if fault := Check(f); fault != api.OK {
		t.Error("Check with six languages", fault)
	}
}

func TestHeads(t *testing.T) {
	languages := func(l ...string) func(f *api.Form) {
		return func(f *api.Form) { f.Languages = l }
	}
	f := formOf(t, houseText)
	holdBreaches(t, f, []breach{
		{"name", func(f *api.Form) { f.Name = "House" }, api.ErrName},
		{"version", func(f *api.Form) { f.Version = 10000 }, api.ErrRange},
		{"languages", languages("a", "b", "c", "d", "e", "f", "a"), api.ErrLarge},
		{"lists", func(f *api.Form) { f.Lists = slices.Repeat(f.Lists[:1], 61) }, api.ErrLarge},
		{"items", func(f *api.Form) { f.Items[0].Kind = 0 }, api.ErrKind},
	})
	for _, x := range []breach{
		{"no name", func(f *api.Form) { f.Name = "" }, api.ErrName}, {"version 0", func(f *api.Form) { f.Version = 0 }, api.ErrRange}, {"no language", languages(), api.ErrLarge},
		{"same languages", languages("en", "de", "en", "1"), api.ErrTwice}, {"language 1", languages("en", "1", "1"), api.ErrName}, {"languages", languages("en", "en", "De"), api.ErrTwice}, {"reserved", languages("en", "or"), api.ErrName},
	} {
		holdBreaches(t, f, []breach{x})
	}
}

// numberedLists returns lists that are right.
func numberedLists(n int) []api.List {
	lists := make([]api.List, n)
	for i := range lists {
		lists[i] = api.List{Name: "list" + strconv.Itoa(i), Options: []api.Option{{Code: 1}}}
	}
	return lists
}

func numberedOptions(n int) []api.Option {
	options := make([]api.Option, n)
	for i := range options {
		options[i].Code = i + 1
	}
	return options
}

func TestLists(t *testing.T) {
	f := api.Form{Name: "f", Version: 1, Languages: []string{"en", "de"}, Lists: numberedLists(api.MaxLists)}
	f.Lists[0].Options = numberedOptions(api.MaxOptions)
	f.Lists[1].Options = numberedOptions(3)
	phrase := func(texts ...string) func(f *api.Form) {
		return func(f *api.Form) { f.Lists[1].Options[1].Phrase = texts }
	}
	holdBreaches(t, f, []breach{
		{"lists", func(f *api.Form) { f.Lists = append(f.Lists, api.List{}) }, api.ErrLarge},
		{"name", func(f *api.Form) { f.Lists[0].Name = "not" }, api.ErrName},
		{"options", func(f *api.Form) { f.Lists[0].Options = numberedOptions(api.MaxOptions + 1) }, api.ErrLarge},
		{"code", func(f *api.Form) { f.Lists[0].Options[5].Code = 1000 }, api.ErrRange},
		{"same code", func(f *api.Form) { f.Lists[0].Options[6].Code = 5 }, api.ErrTwice},
		{"phrase", func(f *api.Form) { f.Lists[0].Options[6].Phrase = api.Phrase{"a"} }, api.ErrForm},
		{"later code", func(f *api.Form) { f.Lists[0].Options[7].Code = 0 }, api.ErrRange},
		{"same name", func(f *api.Form) { f.Lists[1].Name = "list0" }, api.ErrTwice},
		{"no option", func(f *api.Form) { f.Lists[1].Options = nil }, api.ErrLarge},
		{"later name", func(f *api.Form) { f.Lists[2].Name = "" }, api.ErrName},
	})
	long := strings.Repeat("x", api.MaxPhrase+1)
	holdBreaches(t, f, []breach{
		{"too few", phrase("a\x7f"), api.ErrForm},
		{"later", func(f *api.Form) { f.Lists[1].Options[2].Code = -1 }, api.ErrRange},
	})
	for _, x := range []breach{
		{"too many", phrase("a", "b", "c"), api.ErrForm}, {"long", phrase(long+"\n", "b"), api.ErrLarge}, {"long second", phrase("a", long), api.ErrLarge}, {"first of two", phrase("a\x1f", long), api.ErrRange}, {"byte 127", phrase("a", "{\x7f"), api.ErrRange}, {"byte 195", phrase("a", "\xc3"), api.ErrRange},
		{"brace", phrase("a", "}"), api.ErrSyntax}, {"open brace", phrase("{", "\n"), api.ErrSyntax}, {"pipe", phrase("{1}", "a"), api.ErrSyntax}, {"pipe of nothing", phrase("a", "{x}"), api.ErrSyntax},
	} {
		holdBreaches(t, f, []breach{x})
	}
}

// chain returns items of a kind, one within the other.
func chain(n, kind int) []api.Item {
	if n == 0 {
		return nil
	}
	item := api.Item{Kind: kind, Name: "c" + strconv.Itoa(n), Items: chain(n-1, kind)}
	if kind == api.ItemLoop {
		item.Count = exprsOf("1")
	}
	return []api.Item{item}
}

func TestSizes(t *testing.T) {
	f := api.Form{Name: "f", Version: 1, Languages: []string{"en"}}
	pages := func(n int) []api.Item {
		items := make([]api.Item, n)
		for i := range items {
			items[i] = api.Item{Kind: api.ItemPage, Name: "p" + strconv.Itoa(i)}
		}
		return items
	}
	within := func(items ...api.Item) []api.Item {
		return []api.Item{{Kind: api.ItemBlock, Name: "b", Items: items}}
	}
	wrong := api.Item{}
	for i, x := range []struct {
		items []api.Item
		want  api.Fault
	}{
		{pages(api.MaxItems), api.OK}, {pages(api.MaxItems + 1), api.ErrLarge}, {within(pages(api.MaxItems - 1)...), api.OK}, {within(pages(api.MaxItems)...), api.ErrLarge}, {append(within(pages(200)...), pages(100)...), api.ErrLarge},
		{chain(api.MaxTree, api.ItemBlock), api.OK}, {chain(api.MaxTree+1, api.ItemBlock), api.ErrLarge}, {within(chain(api.MaxTree, api.ItemBlock)...), api.ErrLarge}, {chain(60000, 99), api.ErrLarge},
		{chain(api.MaxLoops, api.ItemLoop), api.OK}, {chain(api.MaxLoops+1, api.ItemLoop), api.OK}, {chain(api.MaxLoops+2, api.ItemLoop), api.ErrLarge}, {within(chain(api.MaxLoops+1, api.ItemLoop)...), api.OK},
		{append([]api.Item{wrong}, pages(api.MaxItems)...), api.ErrLarge}, {append([]api.Item{wrong}, pages(api.MaxItems-1)...), api.ErrKind}, {append([]api.Item{wrong}, chain(api.MaxTree+1, api.ItemBlock)...), api.ErrLarge},
	} {
		f.Items = x.items
		if fault := Check(f); fault != x.want {
			t.Error("Check of sizes", i, fault)
		}
	}
	// A list of items that contains itself has no end.
	endless := []api.Item{{Kind: api.ItemBlock, Name: "b"}}
	endless[0].Items = endless
	f.Items = endless
	if fault := Check(f); fault != api.ErrLarge {
		t.Error("Check of an endless form", fault)
	}
}

// page returns a page with items.
func page(name string, items ...api.Item) api.Item {
	return api.Item{Kind: api.ItemPage, Name: name, Items: items}
}

func question(name string) api.Item {
	return api.Item{Kind: api.ItemQuestion, Name: name, Answer: api.Answer{Kind: api.Text}}
}

// TestItems has the errors of items, but for those of what they name.
func TestItems(t *testing.T) {
	f := formOf(t, houseText)
	for _, first := range []breach{
		breachOf("got", func(i *api.Item) { i.Kind = 7 }, api.ErrKind),
		breachOf("got", func(i *api.Item) { i.Kind = -1 }, api.ErrKind),
		breachOf("got", func(i *api.Item) { i.Name = "1" }, api.ErrName),
		breachOf("got", func(i *api.Item) { i.Name = "option" }, api.ErrName),
		breachOf("got", func(i *api.Item) { i.Name = "start" }, api.ErrTwice),
		breachOf("got", func(i *api.Item) { i.Shuffle = true }, api.ErrForm),
		breachOf("got", func(i *api.Item) { i.Answer.Kind = 0 }, api.ErrKind),
	} {
		holdBreaches(t, f, []breach{
			first,
			breachOf("many", func(i *api.Item) { i.Kind = 0 }, api.ErrKind),
			breachOf("born", func(i *api.Item) { i.Name = "many" }, api.ErrTwice),
			{"page within a page", func(f *api.Form) {
				f.Items[1].Items[0].Items = append(f.Items[1].Items[0].Items, api.Item{Kind: api.ItemBlock, Name: "b", Items: []api.Item{page("p")}})
			}, api.ErrOrder},
			{"question outside", func(f *api.Form) {
				f.Items[1].Items = append(f.Items[1].Items, question("q"))
			}, api.ErrOrder},
			{"end within a page", func(f *api.Form) {
				itemOf(f, "kid").Items = append(itemOf(f, "kid").Items, api.Item{Kind: api.ItemEnd, Name: "e"})
			}, api.ErrOrder},
			// What items name comes behind all this.
			breachOf("start", func(i *api.Item) { i.If = exprsOf("x") }, api.ErrName),
		})
	}
	// Within one item.
	holdBreaches(t, f, []breach{
		breachOf("kid", func(i *api.Item) { i.Kind = 0 }, api.ErrKind),
		breachOf("toys", func(i *api.Item) { i.Name = "option" }, api.ErrName),
		breachOf("toys", func(i *api.Item) { i.Over = "" }, api.ErrForm),
	})
	for _, x := range []breach{
		{"same name", func(f *api.Form) { f.Items = []api.Item{page("q"), question("q")} }, api.ErrTwice},
		{"form ahead of order", func(f *api.Form) { f.Items = []api.Item{question("q")}; f.Items[0].Shuffle = true }, api.ErrForm},
		{"order ahead of answer", func(f *api.Form) { f.Items = []api.Item{question("q")}; f.Items[0].Answer.Kind = 99 }, api.ErrOrder},
		{"page in a loop in a page", func(f *api.Form) {
			f.Items = []api.Item{page("p", api.Item{Kind: api.ItemLoop, Name: "l", Count: exprsOf("1"), Items: []api.Item{page("q")}})}
		}, api.ErrOrder},
	} {
		holdBreaches(t, f, []breach{x})
	}
}

// TestFieldsOfItems gives items of each kind the fields that they do not use.
func TestFieldsOfItems(t *testing.T) {
	f := formOf(t, houseText)
	fields := map[string]func(i *api.Item){
		"phrase": func(i *api.Item) { i.Phrase = api.Phrase{"a", "b"} },
		"items": func(i *api.Item) {
			i.Items = append(slices.Clone(i.Items), api.Item{Kind: api.ItemCompute, Name: "c", Compute: exprsOf("1")})
		},
		"shuffle":  func(i *api.Item) { i.Shuffle = true },
		"count":    func(i *api.Item) { i.Count = exprsOf("1") },
		"over":     func(i *api.Item) { i.Over = "likes" },
		"compute":  func(i *api.Item) { i.Compute = exprsOf("1") },
		"if":       func(i *api.Item) { i.If = exprsOf("true") },
		"ifs":      func(i *api.Item) { i.If = append(exprsOf("true"), exprOf("true")) },
		"counts":   func(i *api.Item) { i.Count = append(exprsOf("1"), exprOf("1")) },
		"computes": func(i *api.Item) { i.Compute = append(exprsOf("1"), exprOf("1")) },
	}
	answers := map[string]func(a *api.Answer){
		"kind":    func(a *api.Answer) { a.Kind = api.Text },
		"low":     func(a *api.Answer) { a.Low = -1 },
		"high":    func(a *api.Answer) { a.High = 1 },
		"places":  func(a *api.Answer) { a.Places = 1 },
		"list":    func(a *api.Answer) { a.List = "yesno" },
		"shuffle": func(a *api.Answer) { a.Shuffle = true },
		"only":    func(a *api.Answer) { a.Only = exprsOf("true") },
		"reasons": func(a *api.Answer) { a.Reasons = []int{1} },
		"need":    func(a *api.Answer) { a.Need = true },
		"checks":  func(a *api.Answer) { a.Checks = []api.Rule{{}} },
	}
	for name, own := range map[string]string{
		"rest": "phrase items if", "mixed": "items shuffle if", "kids": "items count if", "toys": "items over if", "five": "compute if", "bye": "phrase if", "got": "phrase if",
	} {
		for field, change := range fields {
			want := api.ErrForm
			if slices.Contains(strings.Fields(own), field) {
				want = api.OK
			}
			holdBreaches(t, f, []breach{{name + " " + field, func(f *api.Form) { change(itemOf(f, name)) }, want}})
		}
		for field, change := range answers {
			if name != "got" {
				holdBreaches(t, f, []breach{{name + " answer " + field, func(f *api.Form) { change(&itemOf(f, name).Answer) }, api.ErrForm}})
			}
		}
	}
	empty := api.Answer{Only: []api.Expr{}, Reasons: []int{}, Checks: []api.Rule{}}
	holdBreaches(t, f, []breach{{"empty lists", func(f *api.Form) { itemOf(f, "rest").Answer = empty }, api.OK}})
	for name, change := range map[string]func(i *api.Item){
		"kids": func(i *api.Item) { i.Count = nil }, "toys": func(i *api.Item) { i.Over = "" }, "five": func(i *api.Item) { i.Compute = nil },
	} {
		holdBreaches(t, f, []breach{breachOf(name, change, api.ErrForm)})
	}
}

// TestAnswers has the errors of F4 in their order.
func TestAnswers(t *testing.T) {
	f := formOf(t, houseText)
	answer := func(item string, change func(a *api.Answer), want api.Fault) breach {
		return breachOf(item, func(i *api.Item) { change(&i.Answer) }, want)
	}
	holdBreaches(t, f, []breach{
		answer("got", func(a *api.Answer) { a.Kind = api.Special }, api.ErrKind),
		answer("got", func(a *api.Answer) { a.Places = 1 }, api.ErrForm),
		answer("got", func(a *api.Answer) { a.List = "x" }, api.ErrName),
		answer("got", func(a *api.Answer) { a.Reasons = []int{1, 0, 4} }, api.ErrOrder),
		answer("got", func(a *api.Answer) { a.Checks = make([]api.Rule, 7) }, api.ErrLarge),
	})
	holdBreaches(t, f, []breach{
		answer("age", func(a *api.Answer) { a.Kind = api.Bool }, api.ErrKind),
		answer("age", func(a *api.Answer) { a.Shuffle = true }, api.ErrForm),
		answer("age", func(a *api.Answer) { a.Low = a.High + 1 }, api.ErrRange),
		answer("age", func(a *api.Answer) { a.Places = 5 }, api.ErrRange),
		answer("age", func(a *api.Answer) { a.Reasons = []int{0} }, api.ErrRange),
		answer("age", func(a *api.Answer) { a.Checks = make([]api.Rule, 7) }, api.ErrLarge),
	})
	holdBreaches(t, f, []breach{
		answer("likes", func(a *api.Answer) { a.High = api.MaxSet + 1 }, api.ErrRange),
		answer("likes", func(a *api.Answer) { a.List = "" }, api.ErrName),
		answer("likes", func(a *api.Answer) { a.Reasons = []int{3, 3} }, api.ErrOrder),
	})
	only := func(a *api.Answer) { a.Only = exprsOf("true") }
	for _, x := range []breach{
		answer("nick", func(a *api.Answer) { a.Places = 1 }, api.ErrForm), answer("likes", func(a *api.Answer) { a.Places = 1 }, api.ErrForm), answer("born", func(a *api.Answer) { a.Places = -1 }, api.ErrForm),
		answer("nick", func(a *api.Answer) { a.List = "yesno" }, api.ErrForm), answer("age", func(a *api.Answer) { a.List = "yesno" }, api.ErrForm), answer("born", func(a *api.Answer) { a.List = "yesno" }, api.ErrForm),
		answer("nick", only, api.ErrForm), answer("age", only, api.ErrForm), answer("born", only, api.ErrForm),
		answer("nick", func(a *api.Answer) { a.Shuffle = true }, api.ErrForm), answer("born", func(a *api.Answer) { a.Shuffle = true }, api.ErrForm),
		answer("got", func(a *api.Answer) { a.Low = -1 }, api.ErrForm), answer("got", func(a *api.Answer) { a.High = 1 }, api.ErrForm),
		answer("got", func(a *api.Answer) { a.Only = slices.Repeat(exprsOf("true"), 2) }, api.ErrForm), answer("likes", func(a *api.Answer) { a.Only = slices.Repeat(exprsOf("true"), 2) }, api.ErrForm),
		answer("age", func(a *api.Answer) { a.Low = -api.MaxNumber - 1 }, api.ErrRange), answer("age", func(a *api.Answer) { a.High = api.MaxNumber + 1 }, api.ErrRange), answer("age", func(a *api.Answer) { a.Places = -1 }, api.ErrRange),
		answer("born", func(a *api.Answer) { a.Low = api.MinDay - 1 }, api.ErrRange), answer("born", func(a *api.Answer) { a.High = api.MaxDay + 1 }, api.ErrRange), answer("born", func(a *api.Answer) { a.Low, a.High = 3, 2 }, api.ErrRange),
		answer("nick", func(a *api.Answer) { a.Low = -1 }, api.ErrRange), answer("nick", func(a *api.Answer) { a.High = api.MaxText + 1 }, api.ErrRange), answer("nick", func(a *api.Answer) { a.Low = 21 }, api.ErrRange),
		answer("likes", func(a *api.Answer) { a.Low = -1 }, api.ErrRange), answer("likes", func(a *api.Answer) { a.Low = 4 }, api.ErrRange),
		answer("got", func(a *api.Answer) { a.Kind = api.Missing }, api.ErrKind), answer("got", func(a *api.Answer) { a.Kind = 8 }, api.ErrKind),
		answer("nick", func(a *api.Answer) { a.Reasons = []int{2, 1} }, api.ErrOrder), answer("nick", func(a *api.Answer) { a.Reasons = []int{1, 4, 3} }, api.ErrRange), answer("nick", func(a *api.Answer) { a.Reasons = []int{-1} }, api.ErrRange),
	} {
		holdBreaches(t, f, []breach{x})
	}
}

// manyOptions returns the lines of so many options.
func manyOptions(n int) string {
	lines := ""
	for i := range n {
		lines += "  option " + strconv.Itoa(i+1) + "\n"
	}
	return lines
}
