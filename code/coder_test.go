package code

import (
	"strings"
	"testing"

	"canvass/api"
)

// fullCoder returns a coder that has some of all.
func fullCoder() api.Coder {
	return api.Coder{
		Nodes:    flat(9),
		Stops:    []string{"a", "the"},
		Endings:  []api.Ending{{From: "ing"}, {From: "ies", To: "y"}},
		Rules:    []api.CodeRule{{With: []string{"a", "b"}, Without: []string{"c", "d"}, Code: 1}, {With: []string{"x"}, Code: 2}},
		Examples: []api.Example{{Text: "some words", Code: 9}, {Text: "", Code: 1}},
	}
}

// coderBounds are lists of a coder with so many elements as they can have, more or less.
func coderBounds(more int) map[string]func(c *api.Coder) {
	return map[string]func(c *api.Coder){
		"Stops":    func(c *api.Coder) { c.Stops = numbered(api.MaxWords + more) },
		"Endings":  func(c *api.Coder) { c.Endings = many(c.Endings[0], api.MaxEndings+more) },
		"Rules":    func(c *api.Coder) { c.Rules = many(c.Rules[1], api.MaxRules+more) },
		"Examples": func(c *api.Coder) { c.Examples = many(c.Examples[0], api.MaxExamples+more) },
		"With":     func(c *api.Coder) { c.Rules[0].With = numbered(api.MaxWords + more) },
		"Without":  func(c *api.Coder) { c.Rules[0].Without = numbered(api.MaxWords + more) },
		"Text":     func(c *api.Coder) { c.Examples[1].Text = strings.Repeat("\xff", api.MaxVerbatim+more) },
	}
}

func many[T any](element T, count int) []T {
	out := make([]T, count)
	for i := range out {
		out[i] = element
	}
	return out
}

func TestCheckCoder(t *testing.T) {
	is(t, "a coder with a frame alone", show(CheckCoder(api.Coder{Nodes: flat(1)})), "0")
	is(t, "a full coder", show(CheckCoder(fullCoder())), "0")
	for what, change := range coderBounds(0) {
		c := fullCoder()
		change(&c)
		is(t, what+" at the bound", show(CheckCoder(c)), "0")
	}
	for what, change := range coderBounds(1) {
		c := fullCoder()
		change(&c)
		is(t, what+" beyond the bound", show(CheckCoder(c)), "2")
	}
	c := fullCoder()
	c.Rules[0].With, c.Rules[0].Without = []string{"a"}, []string{"a"}
	is(t, "a word of With and Without", show(CheckCoder(c)), "0")
}

// TestWordsOfCoders holds which texts are words, wherever a coder has words (C3).
func TestWordsOfCoders(t *testing.T) {
	places := map[string]func(c *api.Coder, word string){
		"Stops":   func(c *api.Coder, word string) { c.Stops = []string{word} },
		"From":    func(c *api.Coder, word string) { c.Endings[1].From = word },
		"To":      func(c *api.Coder, word string) { c.Endings[1].To = word },
		"With":    func(c *api.Coder, word string) { c.Rules[1].With = []string{word} },
		"Without": func(c *api.Coder, word string) { c.Rules[1].Without = []string{word} },
	}
	for _, x := range []struct {
		word string
		want api.Fault
	}{
		{"a", 0}, {"z", 0}, {"0", 0}, {"9", 0}, {"0a9z", 0}, {strings.Repeat("z", 30), 0}, {strings.Repeat("z", 31), 5},
		{"A", 5}, {"aB", 5}, {"a b", 5}, {" a", 5}, {"a ", 5}, {"a-b", 5}, {"a_b", 5}, {"a\n", 5}, {"\xc3\xa9", 5}, {"\xff", 5}, {"`", 5}, {"{", 5}, {"/", 5}, {":", 5}, {"\u0661", 5}, {"\u212a", 5},
	} {
		for what, put := range places {
			c := fullCoder()
			put(&c, x.word)
			is(t, what+" "+x.word, show(CheckCoder(c)), show(x.want))
		}
	}
	for what, want := range map[string]string{"Stops": "5", "From": "5", "To": "0", "With": "5", "Without": "5"} {
		c := fullCoder()
		places[what](&c, "")
		is(t, what+" with an empty word", show(CheckCoder(c)), want)
	}
}

// TestCoderFaults holds the order of the errors of a coder (C3).
func TestCoderFaults(t *testing.T) {
	climb(t, fullCoder, CheckCoder, []rung[api.Coder]{
		{"a frame with an error", func(c *api.Coder) { c.Nodes = nil }, api.ErrNone},
		{"many examples", func(c *api.Coder) { c.Examples = many(api.Example{}, 2001) }, api.ErrLarge},
		{"no word as the first stop", func(c *api.Coder) { c.Stops[0] = "" }, api.ErrName},
		{"stops that do not increase", func(c *api.Coder) { c.Stops[1] = "a" }, api.ErrOrder},
		{"no word as a later stop", func(c *api.Coder) { c.Stops = append(c.Stops, "") }, api.ErrName},
		{"no word as From", func(c *api.Coder) { c.Endings[1].From = "" }, api.ErrName},
		{"a first rule without With", func(c *api.Coder) { c.Rules[0].With = nil }, api.ErrNone},
		{"many words in Without", func(c *api.Coder) { c.Rules[0].With, c.Rules[0].Without = []string{""}, make([]string, 61) }, api.ErrLarge},
		{"no word in With", func(c *api.Coder) { c.Rules[0].With = []string{""} }, api.ErrName},
		{"With that does not increase", func(c *api.Coder) { c.Rules[0].With = []string{"b", "a"} }, api.ErrOrder},
		{"no word in Without", func(c *api.Coder) { c.Rules[0].Without = []string{"c", "D"} }, api.ErrName},
		{"Without that does not increase", func(c *api.Coder) { c.Rules[0].Without = []string{"c", "c"} }, api.ErrOrder},
		{"a rule with a code of none", func(c *api.Coder) { c.Rules[0].Code = 10 }, api.ErrName},
		{"a second rule without With", func(c *api.Coder) { c.Rules[1].With = []string{} }, api.ErrNone},
		{"a long example", func(c *api.Coder) { c.Examples[0].Text = strings.Repeat("a", 1001) }, api.ErrLarge},
		{"an example with a code of none", func(c *api.Coder) { c.Examples[0].Code = 0 }, api.ErrName},
		{"a long second example", func(c *api.Coder) { c.Examples[1].Text = strings.Repeat("a", 1001) }, api.ErrLarge},
	})
	for _, code := range []int{0, -1, 10, 1000, -1 << 63} {
		c := fullCoder()
		c.Rules[1].Code = code
		is(t, show("a rule with the code", code), show(CheckCoder(c)), "5")
		c = fullCoder()
		c.Examples[1].Code = code
		is(t, show("an example with the code", code), show(CheckCoder(c)), "5")
	}
	c := fullCoder()
	c.Endings[0].To, c.Endings[1].From = "", "X"
	is(t, "an empty To ahead of no word as From", show(CheckCoder(c)), "5")
}

// TestAskedFaults holds the errors of functions with a coder and a text: that of the coder comes ahead of that of the text.
func TestAskedFaults(t *testing.T) {
	bad, long, half := fullCoder(), strings.Repeat("a", 1001), parts("1/2")
	bad.Stops = []string{""}
	for _, x := range []struct {
		c    api.Coder
		text string
		want api.Fault
	}{{bad, "", api.ErrName}, {bad, long, api.ErrName}, {fullCoder(), long, api.ErrLarge}, {fullCoder(), long[1:], api.OK}} {
		words, fault := Words(x.c, x.text)
		refuses(t, "Words", x.want, words, fault)
		l, fault := Propose(x.c, x.text)
		refuses(t, "Propose", x.want, l, fault)
		code, ok, fault := Automatic(x.c, x.text, half, half)
		refuses(t, "Automatic", x.want, code, ok, fault)
	}
	right, wrong, open, fault := Quality(bad, half, half)
	refuses(t, "Quality", api.ErrName, right, wrong, open, fault)
}

func TestWords(t *testing.T) {
	letters := strings.Repeat("abcdefghij", 4)
	for _, x := range []struct{ what, stops, endings, text, want string }{
		{"no text", "", "", "", "[]"},
		{"no words", "", "", " -,.\n\x00\xff", "[]"},
		{"one word", "", "", "dog", "[dog]"},
		{"all kinds of letters and digits", "", "", "AZaz09", "[azaz09]"},
		{"bytes beside them", "", "", "a@b[c`d{e/f:g_h\xc3\xa9i\xffj\x00k\u212al", "[a b c d e f g h i j k l]"},
		{"in the order of the text", "", "", "the dog, a cat; THE bird", "[the dog a cat bird]"},
		{"cut words", "", "", letters[:29] + " " + letters[:30] + " " + letters[:31] + " " + letters + "x", "[" + letters[:29] + " " + letters[:30] + "]"},
		{"stops", "a the", "", "The a dog A tHe then", "[dog then]"},
		{"a stop that is a cut word", letters[:30], "", letters + " dog", "[dog]"},
		{"no stop behind its ending", "dog", "s=", "dogs dog cats", "[dog cat]"},
		{"a stop with an ending", "dogs", "s=", "dogs dog", "[dog]"},
		{"the first ending", "", "s= es=e es=i", "dishes boxes", "[dishe boxe]"},
		{"the first of other ones", "", "es=i s=", "dishes dogs", "[dishi dog]"},
		{"three bytes ahead", "", "ing=", "sing bring string ing king", "[sing bring str ing king]"},
		{"an earlier ending with too few bytes ahead", "", "ing= g=x", "sing bring string", "[sinx brinx str]"},
		{"looked at once only", "", "ss=s s=", "bosss", "[boss]"},
		{"a new ending that is again one", "", "y=s s=", "many dogs", "[mans dog]"},
		{"a long word that becomes longer", "", "j=" + letters[:30], letters, "[" + letters[:29] + letters[:30] + "]"},
		{"an ending of the cut word", "", "j=", letters + " " + letters[:31], "[" + letters[:29] + "]"},
		{"endings of digits", "", "0=", "1230 10 00000 000", "[123 10 0000 000]"},
		{"words that become one", "", "s= ing=", "dogs dog DOGING dogsing", "[dog dogs]"},
		{"the same word twice", "", "", "dog Dog dOG", "[dog]"},
	} {
		c := api.Coder{Nodes: flat(1), Stops: strings.Fields(x.stops)}
		for _, e := range strings.Fields(x.endings) {
			from, to, _ := strings.Cut(e, "=")
			c.Endings = append(c.Endings, api.Ending{From: from, To: to})
		}
		words, fault := Words(c, x.text)
		is(t, x.what, show(words, fault), x.want+" 0")
	}
}

// TestManyWords holds that the first MaxWords words are taken, when those that are left out are left out.
func TestManyWords(t *testing.T) {
	c := api.Coder{Nodes: flat(1), Stops: []string{"w0003"}}
	l := numbered(130)
	words, fault := Words(c, strings.Join(l, " "))
	is(t, "130 words", show(words, fault), show(append(append([]string{}, l[:3]...), l[4:61]...), 0))
	words, fault = Words(c, strings.Join(append(many("w0003", 20), append(many("x", 20), l[4:100]...)...), " "))
	is(t, "words that are left out", show(words, fault), show(append([]string{"x"}, l[4:63]...), 0))
	words, fault = Words(c, strings.Join(l[4:64], " "))
	is(t, "60 words", show(words, fault), show(l[4:64], 0))
}
