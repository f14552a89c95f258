package quest

import (
	"slices"
	"strings"
	"testing"

	"canvass/api"
	"canvass/value"
)

// nestText has cells and loops at all places from which others can be seen, or cannot.
const nestText = `form nest 1
languages en
list l
  option 1
page p1
  question a number 0 9
block mixed shuffle
  page p2
    question b number 0 9
  block inner
    page p3
      question c number 0 9
      question d number 0 9
    loop l1 count 2
      page p4
        question e number 0 9
  loop l2 count 2
    page p5
      question f number 0 9
    block deep shuffle
      compute g = 1
      loop l3 count 1
        compute h = 1
page p6
  block small shuffle
    question i number 0 9
    block fixed
      question j number 0 9
      question k number 0 9
`

func TestAhead(t *testing.T) {
	f := formOf(t, nestText)
	for name, want := range map[string]string{
		"p1": "", "a": "", "mixed": "a", "p2": "a", "b": "a", "inner": "a", "c": "a", "d": "a c", "l1": "a c d", "e": "a c d", "l2": "a", "f": "a", "deep": "a f", "g": "a f", "l3": "a f", "h": "a f",
		"p6": "a b c d e f g h", "small": "a b c d e f g h", "i": "a b c d e f g h", "fixed": "a b c d e f g h", "j": "a b c d e f g h", "k": "a b c d e f g h j",
	} {
		if got, fault := Ahead(f, name); !slices.Equal(got, strings.Fields(want)) || fault != api.OK {
			t.Error("Ahead of", name, got, fault)
		}
	}
	for _, name := range []string{"", "z", "l", "option", "nest", "en"} {
		if got, fault := Ahead(f, name); len(got) > 0 || fault != api.ErrName {
			t.Error("Ahead of", name, got, fault)
		}
	}
	f.Version = 0
	if got, fault := Ahead(f, "z"); len(got) > 0 || fault != api.ErrRange {
		t.Error("Ahead in a wrong form", got, fault)
	}
}

// TestFits has the errors of expressions at items (F2).
func TestFits(t *testing.T) {
	long := exprsOf("1 > 0 or '" + strings.Repeat("x", 200) + "' = ''")
	for len(long[0].Args) < 20 {
		long[0].Args = append(long[0].Args, long[0].Args[1])
	}
	if _, fault := value.Print(long[0]); fault != api.ErrLarge {
		t.Fatal("the expression is not long", fault)
	}
	missing := api.Value{}
	for _, x := range []struct {
		item string
		e    []api.Expr
		want api.Fault
	}{
		{"p1", exprsOf("true"), api.OK}, {"p1", exprsOf("1"), api.ErrType}, {"p1", exprsOf("'x'"), api.ErrType},
		// The error of Print comes first.
		{"p1", []api.Expr{{}}, api.ErrKind}, {"p1", []api.Expr{{Kind: api.XConst, Value: missing}}, api.ErrKind}, {"p1", long, api.ErrLarge}, {"p1", []api.Expr{{Kind: api.XOp, Op: api.OpOr, Args: exprsOf("z")}}, api.ErrForm}, {"p1", []api.Expr{{Kind: api.XAnswer, Name: "Z"}}, api.ErrName},
		// Names.
		{"p6", exprsOf("z = 1"), api.ErrName}, {"p6", exprsOf("l1 = 1"), api.ErrName}, {"p6", exprsOf("p1 = 1"), api.ErrName}, {"p6", exprsOf("option = #1"), api.ErrName}, {"p6", exprsOf("asked(z)"), api.ErrName}, {"p6", exprsOf("row(z) = 1"), api.ErrName}, {"p6", exprsOf("row(a) = 1"), api.ErrName}, {"p6", exprsOf("any(a: true)"), api.ErrName}, {"p6", exprsOf("any(z: true)"), api.ErrName}, {"p6", exprsOf("any(mixed: true)"), api.ErrName}, {"p6", exprsOf("l = 1"), api.ErrName},
		// A name that there is not comes ahead of one that stands behind; that comes ahead of kinds.
		{"p1", exprsOf("a = 1 and z = 1"), api.ErrName}, {"p1", exprsOf("a = 1 and z"), api.ErrName}, {"p1", exprsOf("any(l1: row(z) = 1)"), api.ErrName}, {"p1", exprsOf("a"), api.ErrEarly}, {"p1", exprsOf("1 = true and asked(a)"), api.ErrEarly},
		// What stands behind, or at any order.
		{"a", exprsOf("a = 1"), api.ErrEarly}, {"p1", exprsOf("a = 1"), api.ErrEarly}, {"mixed", exprsOf("a = 1"), api.OK}, {"mixed", exprsOf("b = 1"), api.ErrEarly}, {"p2", exprsOf("c = 1"), api.ErrEarly}, {"inner", exprsOf("b = 1"), api.ErrEarly}, {"c", exprsOf("b = 1"), api.ErrEarly}, {"d", exprsOf("c = 1"), api.OK}, {"l2", exprsOf("c = 1"), api.ErrEarly}, {"h", exprsOf("g = 1"), api.ErrEarly}, {"h", exprsOf("f = 1"), api.OK}, {"j", exprsOf("i = 1"), api.ErrEarly}, {"k", exprsOf("j = 1 and a = 1"), api.OK}, {"p1", exprsOf("asked(b)"), api.ErrEarly}, {"p6", exprsOf("asked(b)"), api.OK},
		// Loops: of aggregates they stand ahead, of row around.
		{"p6", exprsOf("any(l1: e = 1)"), api.OK}, {"p6", exprsOf("e = 1"), api.ErrName}, {"p6", exprsOf("any(l2: f = 1 and any(l3: h = 1 and row(l3) = row(l2)))"), api.OK}, {"p6", exprsOf("any(l3: true)"), api.ErrName}, {"p6", exprsOf("any(l1: f = 1)"), api.ErrName}, {"e", exprsOf("any(l1: true)"), api.ErrEarly}, {"l1", exprsOf("any(l1: true)"), api.ErrEarly}, {"p5", exprsOf("any(l1: true)"), api.ErrEarly}, {"c", exprsOf("any(l1: true)"), api.ErrEarly}, {"deep", exprsOf("any(l3: true)"), api.ErrEarly}, {"g", exprsOf("any(l3: true)"), api.ErrEarly}, {"p1", exprsOf("any(l1: true)"), api.ErrEarly},
		{"e", exprsOf("row(l1) = 1"), api.OK}, {"l1", exprsOf("row(l1) = 1"), api.ErrName}, {"p6", exprsOf("row(l1) = 1"), api.ErrName}, {"p1", exprsOf("row(l1) = 1"), api.ErrName}, {"h", exprsOf("row(l3) = row(l2)"), api.OK}, {"g", exprsOf("row(l3) = row(l2)"), api.ErrName},
		// Kinds.
		{"d", exprsOf("c = 'x'"), api.ErrType}, {"d", exprsOf("c + 1"), api.ErrType}, {"p6", exprsOf("any(l2: f)"), api.ErrType}, {"p6", exprsOf("any(l2: g = true)"), api.ErrType}, {"p6", exprsOf("any(l2: h = 1)"), api.ErrName},
	} {
		f := formOf(t, nestText)
		itemOf(&f, x.item).If = x.e
		if fault := Check(f); fault != x.want {
			t.Error("Check of a condition of", x.item, x.e, fault)
		}
	}
}

// TestUses has the errors of what items name, in the order of F3.
func TestUses(t *testing.T) {
	f := formOf(t, houseText)
	one := func(text string) []api.Expr { return exprsOf(text) }
	holdBreaches(t, f, []breach{
		breachOf("start", func(i *api.Item) { i.If = one("1") }, api.ErrType),
		breachOf("start", func(i *api.Item) { i.Phrase[0] = "{z}" }, api.ErrName),
		breachOf("many", func(i *api.Item) { i.If = one("#1") }, api.ErrType),
		breachOf("many", func(i *api.Item) { i.Phrase = api.Phrase{"a"} }, api.ErrForm),
		breachOf("many", func(i *api.Item) { i.Answer.Checks[0].Must = one("likes = 1")[0] }, api.ErrEarly),
		breachOf("many", func(i *api.Item) { i.Answer.Checks[0].Phrase[1] = "}" }, api.ErrSyntax),
		breachOf("many", func(i *api.Item) { i.Answer.Checks[1].Must = one("1")[0] }, api.ErrType),
		breachOf("likes", func(i *api.Item) { i.Answer.Only = one("likes has option") }, api.ErrEarly),
		breachOf("likes", func(i *api.Item) { i.Answer.Checks = []api.Rule{{Must: one("option = #1")[0]}} }, api.ErrName),
		breachOf("five", func(i *api.Item) { i.Compute = one("-#1") }, api.ErrType),
		breachOf("kids", func(i *api.Item) { i.If = one("5") }, api.ErrType),
		breachOf("kids", func(i *api.Item) { i.Count = one("nick") }, api.ErrType),
		breachOf("toys", func(i *api.Item) { i.Over = "price" }, api.ErrEarly),
		breachOf("total", func(i *api.Item) { i.If = one("total = 1") }, api.ErrEarly),
		breachOf("total", func(i *api.Item) { i.Compute = one("total") }, api.ErrEarly),
		breachOf("bye", func(i *api.Item) { i.Phrase[1] = "{age}" }, api.ErrName),
	})
	for _, x := range []breach{
		// Only sees `option`, but not the question; checks and phrases see the question, but not `option`.
		breachOf("likes", func(i *api.Item) { i.Answer.Only = one("option in {#1} and asked(option) and many = 1") }, api.OK),
		breachOf("likes", func(i *api.Item) { i.Answer.Only = one("option has #1") }, api.ErrType),
		breachOf("likes", func(i *api.Item) { i.Answer.Only = one("#1 = #2 or any(kids: option = #1)") }, api.ErrEarly),
		breachOf("likes", func(i *api.Item) { i.Answer.Only = one("option") }, api.ErrType),
		breachOf("likes", func(i *api.Item) { i.Phrase = api.Phrase{"{size(likes)}", "{likes}"} }, api.OK),
		breachOf("likes", func(i *api.Item) { i.Phrase = api.Phrase{"{size(likes)}", "{option}"} }, api.ErrName),
		breachOf("likes", func(i *api.Item) { i.If = one("size(likes) > 0") }, api.ErrEarly),
		breachOf("age", func(i *api.Item) {
			i.Answer.Checks = []api.Rule{{Must: one("age > row(kids) and many > 1")[0], Phrase: api.Phrase{"{age}", "{row(kids)}{born}"}}}
		}, api.OK),
		breachOf("age", func(i *api.Item) { i.Answer.Checks = []api.Rule{{Must: one("sum(kids: age) > 1")[0]}} }, api.ErrEarly),
		breachOf("age", func(i *api.Item) { i.Answer.Checks = []api.Rule{{Must: one("sum(toys: price) > 1")[0]}} }, api.ErrEarly),
		// A page sees what stands ahead of it; its name is that of no cell.
		breachOf("kid", func(i *api.Item) { i.Phrase = api.Phrase{"{row(kids)}", "{kid}"} }, api.ErrName),
		breachOf("kid", func(i *api.Item) { i.Phrase = api.Phrase{"{row(kids)}", "{age}"} }, api.ErrEarly),
		breachOf("kids", func(i *api.Item) { i.Count = one("row(kids)") }, api.ErrName),
		breachOf("kids", func(i *api.Item) { i.Count = one("size(nick) + five") }, api.OK),
		// The kind of a computed value is that of its expression.
		breachOf("five", func(i *api.Item) { i.Compute = one("'x'") }, api.OK),
		{"kind", func(f *api.Form) {
			itemOf(f, "five").Compute = one("size(likes) > 1")
			itemOf(f, "rest").If = one("five and not five = false")
		}, api.OK},
		{"kind", func(f *api.Form) { itemOf(f, "rest").If = one("five") }, api.ErrType},
	} {
		holdBreaches(t, f, []breach{x})
	}
}

// TestLoopsOver has the errors of Over in their order.
func TestLoopsOver(t *testing.T) {
	f := formOf(t, houseText)
	over := func(name string) func(i *api.Item) {
		return func(i *api.Item) { i.Over = name }
	}
	for _, x := range []breach{
		breachOf("toys", over("nobody"), api.ErrName), breachOf("toys", over("five"), api.ErrName), breachOf("toys", over("start"), api.ErrName), breachOf("toys", over("kids"), api.ErrName), breachOf("toys", over("colours"), api.ErrName), breachOf("toys", over("option"), api.ErrName), breachOf("toys", over("Likes"), api.ErrName),
		breachOf("toys", over("price"), api.ErrEarly), breachOf("toys", over("got"), api.ErrType), breachOf("toys", over("age"), api.ErrType), breachOf("toys", over("likes"), api.OK),
	} {
		holdBreaches(t, f, []breach{x})
	}
	const text = `form f 1
languages en
list l
  option 1
list m
  option 2
loop a count 2
  page p1
    question q choices l 0 9
  block b
    loop c over q
      page p2
        question r choices l 0 9
        loop d over r
          compute x = 1
loop e over s
  compute y = 1
loop f over s
  loop g over s
    compute z = 1
`
	long := func(n int) string {
		return strings.Replace(text, "  option 2\n", manyOptions(n), 1)
	}
	for _, x := range []struct {
		change []string
		want   api.Fault
	}{
		{[]string{"over s", "count 1"}, api.OK}, {nil, api.ErrName}, {[]string{"over s", "over q"}, api.ErrName}, {[]string{"over s", "over r"}, api.ErrName}, {[]string{"over s", "count 1", "over r", "over q"}, api.OK},
		// Its loops come ahead of its list, and behind its kind.
		{[]string{"over s", "over q", "choices l", "choices m", "c over q", "c count 1", "d over r", "d count 1"}, api.ErrName}, {[]string{"over s", "count 1", "choices l", "choices m"}, api.ErrLarge}, {[]string{"over s", "over q", "choices l 0 9", "number 0 9"}, api.ErrType},
	} {
		if _, line, fault := Read(strings.NewReplacer(x.change...).Replace(long(21))); fault != x.want || line != 0 {
			t.Error("Read of loops", x.change, fault, line)
		}
	}
	right := strings.NewReplacer("over s", "count 1", "choices l", "choices m").Replace(long(20))
	if _, line, fault := Read(right); fault != api.OK {
		t.Error("Read of a loop with twenty rows", fault, line)
	}
}

// TestPhraseErrors has the errors of phrases in their order.
func TestPhraseErrors(t *testing.T) {
	f := formOf(t, houseText)
	full := strings.Repeat("x", api.MaxPhrase)
	for _, x := range []struct {
		phrase api.Phrase
		want   api.Fault
	}{
		{nil, api.OK}, {api.Phrase{}, api.OK}, {api.Phrase{"", ""}, api.OK}, {api.Phrase{full, full}, api.OK}, {api.Phrase{" ~", "a"}, api.OK},
		{api.Phrase{"a"}, api.ErrForm}, {api.Phrase{"a", "b", full + "x"}, api.ErrForm}, {api.Phrase{"\n"}, api.ErrForm},
		{api.Phrase{full + "\n", "{"}, api.ErrLarge}, {api.Phrase{"a", full + "}"}, api.ErrLarge},
		{api.Phrase{"{\n", "a"}, api.ErrRange}, {api.Phrase{"a", "{z}\x7f"}, api.ErrRange}, {api.Phrase{"\x1f", full + "x"}, api.ErrRange}, {api.Phrase{"a", "\xff"}, api.ErrRange},
		{api.Phrase{"{z} }", "a"}, api.ErrSyntax}, {api.Phrase{"{z}", full + "x"}, api.ErrName}, {api.Phrase{"{#1 = 1}{z}", full + "x"}, api.ErrType}, {api.Phrase{"{z}{#1 = 1}", "}"}, api.ErrName}, {api.Phrase{"{got}{age}", "}"}, api.ErrName}, {api.Phrase{"{got}{rest}", "}"}, api.ErrName}, {api.Phrase{"{got}", "{answered(1)}"}, api.ErrSyntax}, {api.Phrase{"{got}", "{abcdefghijklmnopq}"}, api.ErrSyntax},
		{api.Phrase{"{got}{many}", "{nick}{likes}{five > 1}{total}{born}"}, api.OK},
	} {
		f := f
		f.Items = slices.Clone(f.Items)
		itemOf(&f, "rest").Phrase = x.phrase
		if fault := Check(f); fault != x.want {
			t.Errorf("Check of the phrase %.40q: %d", x.phrase, fault)
		}
	}
}

// TestBraces has the texts of phrases that F8 permits.
func TestBraces(t *testing.T) {
	f := formOf(t, "form f 1\nlanguages en\npage p\npage q\n  text \"\"\n")
	for text, want := range map[string]api.Fault{
		"{{": api.OK, "}}": api.OK, "{{}}": api.OK, "}}{{": api.OK, "{{{{": api.OK, "{1}": api.OK, "a{1}b{ 2 }c": api.OK, "{{{1}}}": api.OK, "{{1}}": api.OK, "{1}{{": api.OK, "{1}}}": api.OK, "{'}'}": api.OK, "{'{'}": api.OK, "{'it''s }'}": api.OK, "{'}' = '{{'}": api.OK, "{''}": api.OK,
		"{": api.ErrSyntax, "}": api.ErrSyntax, "a}b": api.ErrSyntax, "{{{": api.ErrSyntax, "}}}": api.ErrSyntax, "{1}}": api.ErrSyntax, "{{1}": api.ErrSyntax, "{1": api.ErrSyntax, "{}": api.ErrSyntax, "{ }": api.ErrSyntax, "{1 +}": api.ErrSyntax, "{1}{": api.ErrSyntax, "{'}": api.ErrSyntax, "{'''}": api.ErrSyntax, "{size({#1})}": api.ErrSyntax, "{#1 in {#1}}": api.ErrSyntax, "{1 {2}": api.ErrSyntax, "{{}": api.ErrSyntax, "{-}": api.ErrSyntax, "{dontknow": api.ErrSyntax,
	} {
		itemOf(&f, "q").Phrase = api.Phrase{text}
		if fault := Check(f); fault != want {
			t.Errorf("Check of the text %q: %d", text, fault)
		}
	}
}
