package interview

import (
	"slices"
	"strconv"
	"strings"
	"testing"

	"canvass/api"
	"canvass/quest"
	"canvass/value"
)

func formOf(t *testing.T, text string) api.Form {
	t.Helper()
	f, line, fault := quest.Read(text)
	if fault != api.OK {
		t.Fatal("Read", line, fault)
	}
	return f
}

// listed returns a form with two lists and some lines.
func listed(t *testing.T, lines string) api.Form {
	t.Helper()
	return formOf(t, listedHead+lines)
}

const listedHead = `form f 1
languages en
list two
  option 1
  option 2
list mix
  option 7
  option 3 alone
  option 5
  option 9 last
`

func numberValue(n int) api.Value       { return api.Value{Kind: api.Number, N: 10000 * n} }
func choiceValue(code int) api.Value    { return api.Value{Kind: api.Choice, N: code} }
func choicesValue(set ...int) api.Value { return api.Value{Kind: api.Choices, Set: set} }
func textValue(s string) api.Value      { return api.Value{Kind: api.Text, S: s} }
func specialValue(n int) api.Value      { return api.Value{Kind: api.Special, N: n} }
func key(name string, row ...int) api.Key {
	return api.Key{Name: name, Row: row}
}
func given(name string, v api.Value, row ...int) api.Given {
	return api.Given{Key: key(name, row...), Value: v}
}

// answers reads given answers, separated by blanks, as `count=2 age.1=7`; the value has no blanks.
func answers(t *testing.T, text string) []api.Given {
	t.Helper()
	var out []api.Given
	for _, word := range strings.Fields(text) {
		at, shown, _ := strings.Cut(word, "=")
		v, fault := value.Read(shown)
		if fault != api.OK {
			t.Fatal("Read", shown, fault)
		}
		out = append(out, api.Given{Key: keyFrom(at), Value: v})
	}
	return out
}

func keyFrom(text string) api.Key {
	words := strings.Split(text, ".")
	k := api.Key{Name: words[0]}
	for _, word := range words[1:] {
		n, _ := strconv.Atoi(word)
		k.Row = append(k.Row, n)
	}
	return k
}

func keyText(k api.Key) string {
	out := k.Name
	for _, n := range k.Row {
		out += "." + strconv.Itoa(n)
	}
	return out
}

func keysText(l []api.Key) string {
	var words []string
	for _, k := range l {
		words = append(words, keyText(k))
	}
	return strings.Join(words, " ")
}

func numbersText(l []int) string {
	var words []string
	for _, n := range l {
		words = append(words, strconv.Itoa(n))
	}
	return strings.Join(words, ",")
}

func valueText(v api.Value) string {
	text, _ := value.Show(v)
	return text
}

func answersText(l []api.Given) string {
	var words []string
	for _, a := range l {
		words = append(words, keyText(a.Key)+"="+valueText(a.Value))
	}
	return strings.Join(words, " ")
}

// askedText returns a text for an element of Asked: its key, its value, `!` and Open, `~` and Soft, `/` and Offered.
func askedText(a api.Asked) string {
	out := keyText(a.Key) + "=" + valueText(a.Value)
	if a.Open != api.OK {
		out += "!" + strconv.Itoa(int(a.Open))
	}
	if len(a.Soft) > 0 {
		out += "~" + numbersText(a.Soft)
	}
	if len(a.Offered) > 0 {
		out += "/" + numbersText(a.Offered)
	}
	return out
}

// routeText returns a text for a route: its elements with `page:` ahead of those of a page, Rows and End.
func routeText(r api.Route) string {
	var words []string
	last := api.Key{}
	for _, a := range r.Asked {
		if !isAt(a.Page, last) {
			words = append(words, keyText(a.Page)+":")
			last = a.Page
		}
		if (a.Kind == api.ItemCompute) != strings.HasPrefix(a.Key.Name, "c") {
			words = append(words, "kind?")
		}
		words = append(words, askedText(a))
	}
	return strings.Join(words, " ")
}

func rowsText(l []api.Rows) string {
	var words []string
	for _, r := range l {
		words = append(words, keyText(api.Key{Name: r.Loop, Row: r.Row})+"="+numbersText(r.Numbers))
	}
	return strings.Join(words, " ")
}

func sameValue(a, b api.Value) bool { return value.Compare(a, b) == 0 }

func sameGiven(a, b api.Given) bool { return isAt(a.Key, b.Key) && sameValue(a.Value, b.Value) }

func sameAsked(a, b api.Asked) bool {
	return isAt(a.Key, b.Key) && isAt(a.Page, b.Page) && a.Kind == b.Kind && sameValue(a.Value, b.Value) && a.Open == b.Open && slices.Equal(a.Soft, b.Soft) && slices.Equal(a.Offered, b.Offered)
}

func sameRows(a, b api.Rows) bool {
	return a.Loop == b.Loop && slices.Equal(a.Row, b.Row) && slices.Equal(a.Numbers, b.Numbers)
}

func sameRoute(a, b api.Route) bool {
	return slices.EqualFunc(a.Asked, b.Asked, sameAsked) && slices.EqualFunc(a.Pages, b.Pages, isAt) && slices.EqualFunc(a.Rows, b.Rows, sameRows) && a.End == b.End
}

// routeWith returns the route of a form with answers.
func routeWith(t *testing.T, f api.Form, text string) api.Route {
	t.Helper()
	r, fault := RouteOf(f, "s", answers(t, text))
	if fault != api.OK {
		t.Fatal("RouteOf", text, fault)
	}
	return r
}
