package quest

import (
	"reflect"
	"strconv"
	"strings"
	"testing"

	"canvass/api"
	"canvass/value"
)

func TestTextOfForms(t *testing.T) {
	for _, text := range []string{houseText, nestText, "form a 1\nlanguages en\n", "form a 9999\nlanguages a b c d e f\nlist l\n  option 999 alone last \"\" \"{{\" \"}}\" \"\" \"\\\\\\\"\" \"a b\"\n"} {
		f := formOf(t, text)
		if got, fault := Text(f); got != text || fault != api.OK {
			t.Errorf("Text: %d\n%s", fault, got)
		}
	}
}

// TestWrittenForm writes a form that was not read.
func TestWrittenForm(t *testing.T) {
	one := func(text string) api.Expr { return exprOf(text) }
	f := api.Form{Name: "f", Version: 12, Languages: []string{"en"}, Lists: []api.List{{Name: "l", Options: []api.Option{{Code: 4, Alone: true, Last: true}, {Code: 2, Phrase: api.Phrase{`a "b" \c\ {{`}}}}}, Items: []api.Item{
		{Kind: api.ItemCompute, Name: "k", If: exprsOf("true"), Compute: []api.Expr{one("( 1 )+2")}},
		{Kind: api.ItemBlock, Name: "b", Items: []api.Item{{Kind: api.ItemLoop, Name: "o", Count: exprsOf("k"), If: exprsOf("k=3"), Items: []api.Item{
			{Kind: api.ItemPage, Name: "p", If: exprsOf("k > 1"), Phrase: api.Phrase{""}, Items: []api.Item{
				{Kind: api.ItemQuestion, Name: "n", Answer: api.Answer{Kind: api.Number, Low: -5000, High: 123456, Places: 2, Need: true, Reasons: []int{1, 2, 3}}},
				{Kind: api.ItemQuestion, Name: "t", If: exprsOf("n = 1"), Phrase: api.Phrase{"{n}"}, Answer: api.Answer{Kind: api.Text, Low: 1, High: 2, Checks: []api.Rule{{Must: one("t <> ''"), Soft: true, Phrase: api.Phrase{"{t}?"}}, {Must: one("size(t)>1")}}}},
				{Kind: api.ItemQuestion, Name: "c", Answer: api.Answer{Kind: api.Choice, List: "l", Shuffle: true, Need: true, Only: exprsOf("option=#2"), Reasons: []int{3}}},
				{Kind: api.ItemQuestion, Name: "s", Answer: api.Answer{Kind: api.Choices, List: "l", High: 2, Only: exprsOf("true")}},
				{Kind: api.ItemQuestion, Name: "d", Answer: api.Answer{Kind: api.Day, Low: -25567, High: 0}},
			}},
		}}}},
		{Kind: api.ItemEnd, Name: "e", Phrase: api.Phrase{"x"}},
		{Kind: api.ItemBlock, Name: "z", Shuffle: true},
	}}
	want := `form f 12
languages en
list l
  option 4 alone last
  option 2 "a \"b\" \\c\\ {{"
compute k = 1 + 2
  if true
block b
  loop o count k
    if k = 3
    page p
      if k > 1
      text ""
      question n number -0.5 12.3456 places 2 need reasons dontknow refused noanswer
      question t text 1 2
        if n = 1
        text "{n}"
        soft t <> ''
          text "{t}?"
        check size(t) > 1
      question c choice l shuffle need reasons noanswer
        only option = #2
      question s choices l 0 2
        only true
      question d day @1900-01-01 @1970-01-01
end e
  text "x"
block z shuffle
`
	got, fault := Text(f)
	if got != want || fault != api.OK {
		t.Errorf("Text: %d\n%s", fault, got)
	}
	back := formOf(t, got)
	if !Equal(f, back) {
		t.Error("Read makes another form of it", back)
	}
	f.Items[0].Name = "end"
	f.Name = "or"
	if got, fault := Text(f); got != "" || fault != api.ErrName {
		t.Error("Text of a wrong form", got, fault)
	}
}

// TestLargeText has texts of just as many bytes as a form can have, and of one more.
func TestLargeText(t *testing.T) {
	text := "form f 1\nlanguages en\n"
	for n := range 240 {
		line := "page p" + strconv.Itoa(n) + "\n  text \"\"\n"
		room := min(api.MaxForm-len(text)-len(line), api.MaxPhrase)
		text += strings.Replace(line, `""`, `"`+strings.Repeat("x", room)+`"`, 1)
		if len(text) == api.MaxForm {
			break
		}
	}
	if len(text) != api.MaxForm {
		t.Fatal("the text has another size", len(text))
	}
	f := formOf(t, text)
	if got, fault := Text(f); got != text || fault != api.OK {
		t.Error("Text of a large form", len(got), fault)
	}
	if g, line, fault := Read(text + "\n"); fault != api.ErrLarge || line != 0 || !reflect.DeepEqual(g, api.Form{}) {
		t.Error("Read of too many bytes", line, fault)
	}
	if _, line, fault := Read(strings.Repeat("x", api.MaxForm)); fault != api.ErrSyntax || line != 0 {
		t.Error("Read of many bytes", line, fault)
	}
	f.Items[len(f.Items)-1].Name += "x"
	if got, fault := Text(f); got != "" || fault != api.ErrLarge {
		t.Error("Text of a form that is too large", len(got), fault)
	}
	f.Version = 0
	if got, fault := Text(f); got != "" || fault != api.ErrRange {
		t.Error("Text of a form that is too large, and wrong", len(got), fault)
	}
}

// TestLinesThatFit has lines, behind the languages, of which F6 would write each for some form, whether Check accepts it or not.
func TestLinesThatFit(t *testing.T) {
	for _, x := range []struct {
		lines string
		want  api.Fault
	}{
		{"page a\n  page b\n", api.ErrOrder}, {"end a\n  page b\n    end c\n", api.ErrForm}, {"compute a = 1\n  text \"\"\n", api.ErrForm}, {"block a\n  text \"x\" \"y\"\n", api.ErrForm}, {"loop l over q\n  text \"x\"\n", api.ErrForm},
		{"question a number 1 0\n  text \"x\" \"y\"\n  only 1\n  check z\n    text \"\"\n  soft 1\n  page b\n    if 1\n", api.ErrForm},
		{"list and\n", api.ErrName}, {"list 1\n", api.ErrName}, {"list l\n", api.ErrLarge}, {"list abcdefghijklmnopqrstuvwxyz\n", api.ErrName}, {"list l\n  option 0\n", api.ErrRange}, {"list l\n  option 999999\n", api.ErrRange}, {"list l\n  option 1 \"a\" \"b\" \"c\"\n", api.ErrForm}, {"list l\n  option 1 \"{\"\n", api.ErrSyntax},
		{"page a\npage a\n", api.ErrTwice}, {"page _\n", api.ErrName}, {"page option\n", api.ErrName}, {"loop l over 9\n", api.ErrName}, {"loop l count 'x'\n", api.ErrType},
		{"page p\n  question q number 5 1 places 9 shuffle need reasons refused refused dontknow\n", api.ErrForm}, {"page p\n  question q number 5 1\n", api.ErrRange}, {"page p\n  question q number 1 5 places 999999\n", api.ErrRange}, {"page p\n  question q text 999999 0\n", api.ErrRange}, {"page p\n  question q choice 1\n", api.ErrName}, {"page p\n  question q choices l 5 0 need\n", api.ErrRange}, {"page p\n  question q day @2026-01-01 @1900-01-01 shuffle\n", api.ErrForm}, {"page p\n  question q text 0 1 reasons refused refused\n", api.ErrOrder}, {"page p\n  question q text 0 1 reasons dontknow noanswer\n", api.OK},
		{"page p\n  text \"" + strings.Repeat("x", 301) + "\"\n", api.ErrLarge},
	} {
		_, line, fault := Read("form a 1\nlanguages en\n" + x.lines)
		if line != 0 || fault != x.want {
			t.Errorf("Read of %q: %d at %d", x.lines, fault, line)
		}
	}
	for text, want := range map[string]api.Fault{
		"form a 0\nlanguages en\n": api.ErrRange, "form a 999999\nlanguages en\n": api.ErrRange, "form 1 1\nlanguages en\n": api.ErrName, "form a 1\nlanguages\n": api.ErrLarge, "form a 1\nlanguages a a\n": api.ErrTwice, "form form 1\nlanguages languages\n": api.OK, "form a 1\nlanguages a b c d e f g\n": api.ErrLarge, "form _________________________ 0\nlanguages not\n": api.ErrName,
	} {
		if _, line, fault := Read(text); line != 0 || fault != want {
			t.Errorf("Read of %q: %d at %d", text, fault, line)
		}
	}
}

// TestMisplacedLines marks with a > the line with which a text ceases to be one.
func TestMisplacedLines(t *testing.T) {
	const head = "form a 1\nlanguages en\n"
	for _, marked := range []string{
		// Too early, or without its end.
		">", "form a 1\n>", "form a 1>", head[:len(head)-1] + ">", head + "page a>", head + "list a\n  option 1>", "form a 1\nlanguages en>",
		// The head.
		">\n", ">\nform a 1\n", ">languages en\n", "> form a 1\n", ">form\n", ">form a\n", ">form a 1 \n", ">form a  1\n", ">form  1\n", ">form a 01\n", ">form a +1\n", ">form a -1\n", ">form a 1000000\n", ">form a 99999999999999999999\n", ">form a 1.5\n", ">form a 1 2\n", ">form A 1\n", ">form a-b 1\n", ">form a 1\r\n", ">Form a 1\n", ">form a one\n", ">page a\n", ">form\ta 1\n", ">form a\n1\n",
		"form a 1\n>\n", "form a 1\n>form a 1\n", "form a 1\n>page a\n", "form a 1\n>languages \n", "form a 1\n>languages en \n", "form a 1\n>languages en  de\n", "form a 1\n>languages En\n", "form a 1\n>  languages en\n", "form a 1\n>language en\n", "form a 1\n>languages en\r\n",
		// Lists.
		head + ">\n", head + ">  page a\n", head + ">pages a\n", head + ">list\n", head + ">list a b\n", head + ">list a \n", head + "list a\n>option 1\n", head + "list a\n>    option 1\n", head + "list a\n> option 1\n", head + "list a\n>   option 1\n", head + "list a\n>  option\n", head + "list a\n>  option 01\n", head + "list a\n>  option a\n", head + "list a\n>  option 1 last alone\n", head + "list a\n>  option 1 alone alone\n", head + "list a\n>  option 1 x\n", head + "list a\n>  option 1 \"a\" last\n", head + "list a\n  option 1\n>    text \"\"\n", head + "list a\n  option 1\n>\n", head + "page b\n>list a\n", head + "list a\n  option 1\n>languages en\n", head + "list a\n>  text \"a\"\n", head + "list a\n>  page a\n",
		// Texts.
		head + "list a\n>  option 1 \"\n", head + "list a\n>  option 1 \"a\n", head + "list a\n>  option 1 \"a\\\"\n", head + "list a\n>  option 1 \"a\\\n", head + "list a\n>  option 1 \"\\a\"\n", head + "list a\n>  option 1 \"a\"b\"\n", head + "list a\n>  option 1 \"a\"\"b\"\n", head + "list a\n>  option 1 \"a\"  \"b\"\n", head + "list a\n>  option 1 \"a\" \n", head + "list a\n>  option 1 'a'\n", head + "list a\n>  option 1 \"\t\"\n", head + "list a\n>  option 1 \"\x7f\"\n", head + "list a\n>  option 1 \"\xc3\xa4\"\n", head + "list a\n>  option 1 \"a\" b\n", head + "list a\n>  option 1 \"a\x00\"\n",
		head + "page a\n>  text\n", head + "page a\n>  text \n", head + "page a\n>  text a\n", head + "page a\n  text \"\"\n>  text \"\"\n", head + "page a\n>  text  \"\"\n",
		// Items.
		head + "page a\n>  if\n", head + "page a\n>  if \n", head + "page a\n>  if  true\n", head + "page a\n>  if true \n", head + "page a\n>  if true  and true\n", head + "page a\n>  if (true)\n", head + "page a\n>  if true and\n", head + "page a\n>  if abcdefghijklmnopq = 1\n", head + "page a\n>  if not  true\n", head + "page a\n>  if answered(1)\n", head + "page a\n>    if true\n", head + "page a\n>if true\n", head + "page a\n>   if true\n", head + "page a\n  if true\n>  if true\n", head + "page a\n  text \"\"\n>  if true\n", head + "page a\n  page b\n>  text \"\"\n", head + "page a\n  page b\n>  if true\n", head + "page a\n>  if 1.50\n",
		head + "page a\n>  only true\n", head + "page a\n>  check true\n", head + "block a\n>  soft true\n", head + ">page\n", head + ">page a b\n", head + ">page a shuffle\n", head + ">page A\n", head + ">page \n", head + ">block a shuffled\n", head + ">block a shuffle shuffle\n", head + ">block shuffle \n", head + ">end\n", head + ">end a b\n",
		head + ">loop a\n", head + ">loop a 1\n", head + ">loop a count\n", head + ">loop a count \n", head + ">loop a count count 1\n", head + ">loop a over\n", head + ">loop a over b c\n", head + ">loop a over b count 1\n", head + ">loop a over 1 + 1\n", head + ">loop a over B\n",
		head + ">compute a\n", head + ">compute a 1\n", head + ">compute a =\n", head + ">compute a =1\n", head + ">compute a= 1\n", head + ">compute a = (1)\n", head + ">compute = 1\n", head + "compute a = 1\n>  compute\n",
		// Questions.
		head + ">question a\n", head + ">question a bool\n", head + ">question a \n", head + ">question a  0 1\n", head + ">question a number\n", head + ">question a number 0\n", head + ">question a number 0 1 2\n", head + ">question a number 00 1\n", head + ">question a number 0 1.0\n", head + ">question a number 0 #1\n", head + ">question a number - 1\n", head + ">question a number 0 100000000000\n", head + ">question a number 0 1 places\n", head + ">question a number 0 1 places 0\n", head + ">question a number 0 1 places 01\n", head + ">question a number 0 1 places -1\n", head + ">question a number 0 1 need places 1\n", head + ">question a number 0 1 places 1 places 1\n",
		head + ">question a text 0\n", head + ">question a text 0 -1\n", head + ">question a text 0 1000000\n", head + ">question a text 0 1.5\n", head + ">question a text 0 1 places 1\n", head + ">question a choice\n", head + ">question a choice L\n", head + ">question a choice l 0 1\n", head + ">question a choices l\n", head + ">question a choices l 0\n", head + ">question a choices 0 1\n", head + ">question a day 0 1\n", head + ">question a day @2026-01-01\n", head + ">question a day @2026-01-01 @2026-02-29\n", head + ">question a day @2026-01-01 @2026-1-2\n", head + ">question a day @2026-01-01 @2200-01-01\n", head + ">question a day @2026-01-01 1\n",
		head + ">question a text 0 1 need shuffle\n", head + ">question a text 0 1 need need\n", head + ">question a text 0 1 shuffle shuffle\n", head + ">question a text 0 1 reasons\n", head + ">question a text 0 1 reasons \n", head + ">question a text 0 1 reasons none\n", head + ">question a text 0 1 reasons 1\n", head + ">question a text 0 1 reasons dontknow need\n", head + ">question a text 0 1 reasons dontknow  refused\n", head + ">question a text 0 1 reasons -\n", head + ">question a text 0 1 \n", head + ">question a Text 0 1\n",
		head + "question a text 0 1\n  check 1\n>    text\n", head + "question a text 0 1\n  check 1\n>  only 1\n", head + "question a text 0 1\n  check 1\n>  if 1\n", head + "question a text 0 1\n  check 1\n>  text \"\"\n", head + "question a text 0 1\n  check 1\n    text \"\"\n>    text \"\"\n", head + "question a text 0 1\n  check 1\n>    page b\n", head + "question a text 0 1\n  only 1\n>  only 1\n", head + "question a text 0 1\n  only 1\n>  text \"\"\n", head + "question a text 0 1\n>  soft\n", head + "question a text 0 1\n  page b\n>  check 1\n", head + "question a text 0 1\n>    check 1\n",
		head + "page a\n  block b\n    page c\n>     page d\n", head + "page a\n  block b\n    page c\n>   page d\n", head + "page a\n  block b\n    page c\n>        page d\n", head + "page a\n>    page b\n",
	} {
		place := strings.Index(marked, ">")
		text := marked[:place] + marked[place+1:]
		want := strings.Count(marked[:place], "\n")
		if place > 0 && marked[place-1] != '\n' {
			want++
		}
		if f, line, fault := Read(text); line != want || fault != api.ErrSyntax || !reflect.DeepEqual(f, api.Form{}) {
			t.Errorf("Read of %q: %d at %d, not at %d", text, fault, line, want)
		}
	}
}

// TestReadForm holds what is read against the form that is meant.
func TestReadForm(t *testing.T) {
	f := formOf(t, houseText)
	many := api.Item{Kind: api.ItemQuestion, Name: "many", If: exprsOf("got = #1"), Phrase: api.Phrase{"How many, {many}?", "Wie viele?"}, Answer: api.Answer{
		Kind: api.Number, Low: 10000, High: 50000, Checks: []api.Rule{{Must: exprOf("many < 5 or got = #2"), Phrase: api.Phrase{"So many ({many})?", "So viele?"}}, {Must: exprOf("many > 1"), Soft: true}},
	}}
	likes := api.Item{Kind: api.ItemQuestion, Name: "likes", Answer: api.Answer{Kind: api.Choices, List: "colours", High: 3, Shuffle: true, Only: exprsOf("not option = #3 or got = #1")}}
	if got := f.Items[0].Items; !sameItem(got[1], many) || !sameItem(got[2], likes) {
		t.Error("Read", got)
	}
	colours := api.List{Name: "colours", Options: []api.Option{{Code: 3, Phrase: api.Phrase{"Red {{1}}", "Rot"}}, {Code: 1, Alone: true}, {Code: 7, Last: true, Phrase: api.Phrase{"Blue", "Blau"}}, {Code: 5, Phrase: api.Phrase{"Green", "Gruen"}}}}
	if !sameList(f.Lists[1], colours) || f.Name != "house" || f.Version != 3 || len(f.Languages) != 2 {
		t.Error("Read", f.Lists)
	}
	born, _ := value.Read("@2026-11-17")
	if a := itemOf(&f, "born").Answer; a.Kind != api.Day || a.Low != api.MinDay || a.High != born.N {
		t.Error("Read of days", a)
	}
	if a := itemOf(&f, "age").Answer; a.Low != -15000 || a.High != 1200000 || a.Places != 1 {
		t.Error("Read of numbers", a)
	}
}
