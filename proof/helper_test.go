package proof

import (
	"slices"
	"testing"

	"canvass/api"
	"canvass/fresh"
	"canvass/quest"
	"canvass/value"
)

func formOf(t *testing.T, text string) api.Form {
	t.Helper()
	f, line, fault := quest.Read(text)
	if fault != api.OK {
		t.Fatal("Read", line, fault)
	}
	return f
}

// pagesOf returns a form with the lists of pagesHead and some lines.
func pagesOf(t *testing.T, lines string) api.Form {
	t.Helper()
	return formOf(t, pagesHead+lines)
}

const pagesHead = `form f 1
languages en
list two
  option 1
  option 2
list mix
  option 7
  option 3 alone
  option 5
`

func exprOf(t *testing.T, text string) api.Expr {
	t.Helper()
	e, place, fault := value.Parse(text)
	if fault != api.OK {
		t.Fatal("Parse", text, place, fault)
	}
	return e
}

// itemOf returns the item with a name.
func itemOf(items []api.Item, name string) *api.Item {
	for i := range items {
		if items[i].Name == name {
			return &items[i]
		}
		if x := itemOf(items[i].Items, name); x != nil {
			return x
		}
	}
	return nil
}

func given(name string, v api.Value) api.Given {
	return api.Given{Key: api.Key{Name: name}, Value: v}
}

func choiceValue(code int) api.Value    { return api.Value{Kind: api.Choice, N: code} }
func numberValue(n int) api.Value       { return api.Value{Kind: api.Number, N: n} }
func dayValue(n int) api.Value          { return api.Value{Kind: api.Day, N: n} }
func textValue(s string) api.Value      { return api.Value{Kind: api.Text, S: s} }
func choicesValue(set ...int) api.Value { return api.Value{Kind: api.Choices, Set: set} }
func specialValue(n int) api.Value      { return api.Value{Kind: api.Special, N: n} }

// wordsOf returns a text for answers: names and values in order.
func wordsOf(l []api.Given) string {
	out := ""
	for _, g := range l {
		text, _ := value.Show(g.Value)
		out += g.Key.Name + " " + text + " "
	}
	return out
}

// preorder returns all items of a form in order, and the name of the item around each one.
func preorder(items []api.Item, around string) ([]api.Item, map[string]string) {
	var out []api.Item
	names := map[string]string{}
	for _, item := range items {
		out = append(out, item)
		names[item.Name] = around
		inner, more := preorder(item.Items, item.Name)
		out = append(out, inner...)
		for name, other := range more {
			names[name] = other
		}
	}
	return out, names
}

func isCoded(item api.Item) bool {
	return item.Answer.Kind == api.Choice || item.Answer.Kind == api.Choices
}

// course is what happens with answers, told by packages value and quest alone.
type course struct {
	given     []api.Given // to the questions that are reached
	reached   []string
	open      map[string]bool // items around which all is reached
	stuck     []string
	permitted bool // all that is given is
}

// courseOf goes through a form by P2 and P3. choose gets a question with the values that are permitted, and returns one.
func courseOf(t *testing.T, f api.Form, choose func(item api.Item, permitted []api.Value, isPermitted func(v api.Value) bool) api.Value) course {
	t.Helper()
	items, around := preorder(f.Items, "")
	s, _ := quest.Blank(f)
	c := course{open: map[string]bool{}, permitted: true}
	isTrue := func(e api.Expr) bool {
		v, fault := value.Eval(e, s, nil, nil)
		if fault != api.OK {
			t.Fatal("Eval", fault)
		}
		return v.N == 1
	}
	bind := func(name string, v api.Value) {
		s.Bounds = append(s.Bounds, api.Bound{Name: name, Value: v, Asked: true})
		slices.SortFunc(s.Bounds, func(a, b api.Bound) int {
			if a.Name < b.Name {
				return -1
			}
			return 1
		})
	}
	for _, item := range items {
		if around[item.Name] != "" && !slices.Contains(c.reached, around[item.Name]) {
			continue
		}
		c.open[item.Name] = true
		if len(item.If) > 0 && !isTrue(item.If[0]) {
			continue
		}
		c.reached = append(c.reached, item.Name)
		switch item.Kind {
		case api.ItemEnd:
			return c
		case api.ItemCompute:
			n := 0
			if isTrue(item.Compute[0]) {
				n = 1
			}
			bind(item.Name, api.Value{Kind: api.Bool, N: n})
		case api.ItemQuestion:
			v := c.ask(f, item, s, choose)
			c.given = append(c.given, given(item.Name, v))
			bind(item.Name, v)
		}
	}
	return c
}

func (c *course) ask(f api.Form, item api.Item, s api.Scene, choose func(item api.Item, permitted []api.Value, isPermitted func(v api.Value) bool) api.Value) api.Value {
	var offered []int
	if isCoded(item) {
		offered, _ = quest.Options(f, "", item.Name, nil, s)
	}
	accept := func(v api.Value) api.Fault {
		return quest.AcceptBy(item.Answer, optionsOf(f, item.Answer.List), v, offered)
	}
	var permitted []api.Value
	for _, v := range domainOf(f, item) {
		if accept(v) == api.OK {
			permitted = append(permitted, v)
		}
	}
	if len(permitted) == 0 {
		c.stuck = append(c.stuck, item.Name)
		permitted = append(permitted, api.Value{})
	}
	isPermitted := func(v api.Value) bool {
		return accept(v) == api.OK || v.Kind == api.Missing && slices.Contains(c.stuck, item.Name)
	}
	v := choose(item, permitted, isPermitted)
	c.permitted = c.permitted && isPermitted(v)
	return v
}

// domainOf returns all values of a question with small ranges; of Texts two, which are like all others.
func domainOf(f api.Form, item api.Item) []api.Value {
	a := item.Answer
	var out []api.Value
	switch a.Kind {
	case api.Number:
		for n := a.Low; n <= a.High; n++ {
			// Tenths are enough for the forms of these tests.
			if n%1000 == 0 {
				out = append(out, numberValue(n))
			}
		}
	case api.Day:
		for n := a.Low; n <= a.High; n++ {
			out = append(out, dayValue(n))
		}
	case api.Text:
		out = append(out, textValue(""), textValue("x"))
	default:
		out = append(out, codedValues(f, a)...)
	}
	for n := api.DontKnow; n <= api.NoAnswer; n++ {
		out = append(out, specialValue(n))
	}
	return append(out, api.Value{})
}

func optionsOf(f api.Form, list string) []api.Option {
	for _, l := range f.Lists {
		if l.Name == list {
			return l.Options
		}
	}
	return nil
}

func codedValues(f api.Form, a api.Answer) []api.Value {
	codes := codesOfList(optionsOf(f, a.List))
	if a.Kind == api.Choice {
		var out []api.Value
		for _, code := range codes {
			out = append(out, choiceValue(code))
		}
		return out
	}
	sets := []api.Value{choicesValue()}
	for _, code := range codes {
		for _, v := range sets {
			sets = append(sets, choicesValue(append(slices.Clone(v.Set), code)...))
		}
	}
	return sets
}

// coursesOf returns the courses of all possible answers; none, if there are more than most.
func coursesOf(t *testing.T, f api.Form, most int) []course {
	t.Helper()
	var out []course
	var script, sizes []int
	for {
		sizes = nil
		c := courseOf(t, f, func(_ api.Item, permitted []api.Value, _ func(v api.Value) bool) api.Value {
			n := len(sizes)
			if n == len(script) {
				script = append(script, 0)
			}
			sizes = append(sizes, len(permitted))
			return permitted[script[n]]
		})
		out = append(out, c)
		script = script[:len(sizes)]
		for len(script) > 0 && script[len(script)-1] == sizes[len(script)-1]-1 {
			script = script[:len(script)-1]
		}
		if len(script) == 0 {
			return out
		}
		script[len(script)-1]++
		if len(out) > most {
			return nil
		}
	}
}

// valueIn returns the value that answers have for a question; Missing, if there is none.
func valueIn(l []api.Given, name string) api.Value {
	for _, g := range l {
		if g.Key.Name == name {
			return fresh.Value(g.Value)
		}
	}
	return api.Value{}
}

func namesOf(l []api.Given) []string {
	var names []string
	for _, g := range l {
		names = append(names, g.Key.Name)
	}
	return names
}
