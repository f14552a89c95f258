package code

import (
	"math/big"
	"strconv"
	"strings"
	"testing"

	"canvass/api"
)

// learned returns a coder with examples, separated by commas, as `5 dog and cat`.
func learned(t *testing.T, nodes []api.Node, text string) api.Coder {
	t.Helper()
	c := api.Coder{Nodes: nodes}
	for _, example := range strings.Split(text, ",") {
		digits, words, _ := strings.Cut(strings.TrimSpace(example), " ")
		code, isCode := codeOf(digits)
		if !isCode {
			t.Fatal(example)
		}
		c.Examples = append(c.Examples, api.Example{Text: words, Code: code})
	}
	return c
}

func TestProposals(t *testing.T) {
	c := learned(t, flat(9), "5 dog, 5 big dog, 3 dog cat, 7 cat, 7 cat cat mouse, 1 mouse")
	for _, x := range []struct{ what, text, want string }{
		{"one word", "dog", "[{5 {2 3} -1} {3 {1 3} -1}]"},
		{"a word of no example", "horse", "[]"},
		{"no words", "...", "[]"},
		{"words of no example count among those of the text", "dog horse", "[{5 {1 3} -1} {3 {1 6} -1}]"},
		{"a word twice", "dog dog DOG", "[{5 {2 3} -1} {3 {1 3} -1}]"},
		{"several words", "cat dog", "[{3 {1 3} -1} {5 {1 3} -1} {7 {1 3} -1}]"},
		{"a word of one code", "big", "[{5 {1 1} -1}]"},
		{"a word twice in an example", "cat", "[{7 {2 3} -1} {3 {1 3} -1}]"},
		{"equal scores", "mouse", "[{1 {1 2} -1} {7 {1 2} -1}]"},
		{"the greatest one last by its code", "cat mouse", "[{7 {7 12} -1} {1 {1 4} -1} {3 {1 6} -1}]"},
	} {
		l, fault := Propose(c, x.text)
		is(t, x.what, show(l, fault), x.want+" 0")
	}
	l, fault := Propose(api.Coder{Nodes: flat(1)}, "dog")
	is(t, "a coder that knows nothing", show(l, fault), "[] 0")
}

// TestStemmedProposals holds that examples and texts have words by the coder's stops and endings, and that words of rules stay as they are.
func TestStemmedProposals(t *testing.T) {
	c := learned(t, flat(9), "5 the dogs, 3 dog, 7 the")
	c.Stops, c.Endings = []string{"the"}, []api.Ending{{From: "s"}}
	l, fault := Propose(c, "The DOGS")
	is(t, "by words", show(l, fault), "[{3 {1 2} -1} {5 {1 2} -1}] 0")
	c.Rules = []api.CodeRule{{With: []string{"dogs"}, Code: 1}, {With: []string{"the"}, Code: 1}}
	l, fault = Propose(c, "The DOGS")
	is(t, "rules with words that texts do not have", show(l, fault), "[{3 {1 2} -1} {5 {1 2} -1}] 0")
	c.Rules = append(c.Rules, api.CodeRule{With: []string{"dog"}, Code: 9})
	l, fault = Propose(c, "The DOGS")
	is(t, "a rule with the word", show(l, fault), "[{9 {1 1} 2}] 0")
}

func TestRules(t *testing.T) {
	c := learned(t, flat(9), "5 dog, 5 cat")
	c.Rules = []api.CodeRule{
		{With: []string{"cat", "dog"}, Without: []string{"horse"}, Code: 1},
		{With: []string{"dog"}, Without: []string{"big", "cat"}, Code: 2},
		{With: []string{"dog"}, Without: []string{"cat"}, Code: 3},
		{With: []string{"ant"}, Without: []string{"ant"}, Code: 4},
	}
	for text, want := range map[string]string{
		"dog and cat": "[{1 {1 1} 0}]", "dog": "[{2 {1 1} 1}]", "a big dog": "[{3 {1 1} 2}]", "dog cat horse": "[{5 {2 3} -1}]", "cat": "[{5 {1 1} -1}]", "ant": "[]", "": "[]", "dogs": "[]",
	} {
		l, fault := Propose(c, text)
		is(t, text, show(l, fault), want+" 0")
	}
}

// TestManyProposals holds that there are at most MaxProposals, the best ones.
func TestManyProposals(t *testing.T) {
	c := api.Coder{Nodes: flat(600)}
	for i := range 600 {
		c.Examples = append(c.Examples, api.Example{Text: "dog", Code: 600 - i})
	}
	l, fault := Propose(c, "dog")
	is(t, "all equal", show(l, fault), "[{1 {1 600} -1} {2 {1 600} -1} {3 {1 600} -1} {4 {1 600} -1} {5 {1 600} -1} {6 {1 600} -1} {7 {1 600} -1} {8 {1 600} -1} {9 {1 600} -1} {10 {1 600} -1}] 0")
	c.Examples = append(c.Examples, api.Example{Text: "dog", Code: 300}, api.Example{Text: "dog", Code: 300}, api.Example{Text: "dog", Code: 500})
	l, fault = Propose(c, "dog")
	is(t, "some better", show(l, fault), "[{300 {1 201} -1} {500 {2 603} -1} {1 {1 603} -1} {2 {1 603} -1} {3 {1 603} -1} {4 {1 603} -1} {5 {1 603} -1} {6 {1 603} -1} {7 {1 603} -1} {8 {1 603} -1}] 0")
}

// TestEqualScores holds that sums of different parts are equal if they are.
func TestEqualScores(t *testing.T) {
	// Each word is in so many examples, one of which has another code than 3.
	c := api.Coder{Nodes: flat(3)}
	for word, x := range map[string]struct{ code, count int }{"b": {2, 2}, "c": {1, 3}, "f": {1, 6}} {
		c.Examples = append(c.Examples, api.Example{Text: word, Code: x.code})
		for range x.count - 1 {
			c.Examples = append(c.Examples, api.Example{Text: word, Code: 3})
		}
	}
	l, fault := Propose(c, "b c f")
	is(t, "1/3 + 1/6 and 1/2", show(l, fault), "[{3 {2 3} -1} {1 {1 6} -1} {2 {1 6} -1}] 0")
	code, ok, fault := Automatic(c, "b c f", parts("2/3"), parts("1/2"))
	is(t, "exactly as good as asked", show(code, ok, fault), "3 true 0")
}

// nearCoder returns a coder, a text, and the number by which the score of the code 2 is greater than that of the code 1, although it differs only by 1 divided by a product of twelve primes: the parts of each word are those that make a sum of 1 of this product, by the theorem of remainders.
func nearCoder() (api.Coder, string, *big.Rat) {
	primes := []int64{541, 547, 557, 563, 569, 571, 577, 587, 593, 599, 601, 607}
	product, sum := big.NewInt(1), new(big.Rat)
	for _, p := range primes {
		product.Mul(product, big.NewInt(p))
	}
	more := make([]int64, len(primes))
	for i, p := range primes {
		rest := new(big.Int).Div(product, big.NewInt(p))
		more[i] = new(big.Int).ModInverse(rest, big.NewInt(p)).Int64()
		sum.Add(sum, big.NewRat(more[i], p))
	}
	for i := 0; sum.Cmp(big.NewRat(1, 1)) > 0; i++ {
		more[i] -= primes[i]
		sum.Sub(sum, big.NewRat(1, 1))
	}
	c := api.Coder{Nodes: flat(600)}
	texts := map[int][]string{} // of the code 1 from 0 on, of 2 from 1000 on, of others from 2000 on
	for i, p := range primes {
		word := "w" + strconv.FormatInt(p, 10)
		first, count := 1000, int(more[i])
		if count < 0 {
			first, count = 0, -count
		}
		for n := range int(p) {
			if n < count {
				texts[first+n] = append(texts[first+n], word)
			} else {
				texts[2000+n-count] = append(texts[2000+n-count], word)
			}
		}
	}
	text := ""
	for _, p := range primes {
		text += " w" + strconv.FormatInt(p, 10)
	}
	for n := range 3000 {
		if words := texts[n]; len(words) > 0 {
			code := n/1000 + 1
			if code == 3 {
				code += n % 500
			}
			c.Examples = append(c.Examples, api.Example{Text: strings.Join(words, " "), Code: code})
		}
	}
	return c, text, sum.Quo(sum, big.NewRat(int64(len(primes)), 1))
}

// TestNearScores holds that scores are exact: two of them differ by far less than what numbers of 64 bits tell apart.
func TestNearScores(t *testing.T) {
	c, text, more := nearCoder()
	l, fault := Propose(c, text)
	if fault != api.OK || len(l) != api.MaxProposals || l[0].Code != 2 || l[1].Code != 1 {
		t.Fatal(l, fault)
	}
	first, _ := new(big.Rat).SetString(l[0].Score.Num + "/" + l[0].Score.Den)
	second, _ := new(big.Rat).SetString(l[1].Score.Num + "/" + l[1].Score.Den)
	is(t, "difference", show(ratioBy(first.Sub(first, second))), show(ratioBy(more)))
	if size := more.Denom().BitLen(); size < 100 {
		t.Error("the scores are not near", more)
	}
	for _, x := range []struct {
		least, gap api.Ratio
		want       string
	}{
		{l[0].Score, ratioBy(more), "2 true"}, {l[0].Score, parts("0/1"), "2 true"},
		{l[0].Score, ratioBy(new(big.Rat).Add(more, big.NewRat(1, 1<<62))), "0 false"}, {ratioBy(more.Add(more, second).Add(more, big.NewRat(1, 1<<62))), parts("0/1"), "0 false"},
	} {
		code, ok, fault := Automatic(c, text, x.least, x.gap)
		is(t, show(x), show(code, ok, fault), x.want+" 0")
	}
	// With one example of the code 1 more, this one comes first.
	c.Examples = append(c.Examples, api.Example{Text: "w541", Code: 1})
	l, fault = Propose(c, text)
	is(t, "one more", show(l[0].Code, l[1].Code, fault), "1 2 0")
}

func TestAutomatic(t *testing.T) {
	c := learned(t, flat(9), "5 dog, 5 big dog, 3 dog cat, 7 cat, 7 cat cat mouse, 1 mouse")
	c.Rules = []api.CodeRule{{With: []string{"tree"}, Code: 9}}
	for _, x := range []struct{ text, least, gap, want string }{
		{"dog", "2/3", "1/3", "5 true"},
		{"dog", "0/1", "0/1", "5 true"},
		{"dog", "667/1000", "0/1", "0 false"},
		{"dog", "0/1", "167/500", "0 false"},
		{"dog", "333/500", "333/1000", "5 true"},
		{"mouse", "1/2", "0/1", "1 true"},
		{"mouse", "0/1", "1/1000000", "0 false"},
		{"big", "1/1", "1/1", "5 true"},
		{"big small", "1/2", "1/2", "5 true"},
		{"big small", "1/2", "501/1000", "0 false"},
		{"horse", "0/1", "0/1", "0 false"},
		{"", "0/1", "0/1", "0 false"},
		{"dog tree", "1/1", "1/1", "9 true"},
	} {
		code, ok, fault := Automatic(c, x.text, parts(x.least), parts(x.gap))
		is(t, show(x), show(code, ok, fault), x.want+" 0")
	}
	nearly := api.Ratio{Num: strings.Repeat("6", 1998) + "7", Den: "1" + strings.Repeat("0", 1999)}
	code, ok, fault := Automatic(c, "dog", nearly, parts("0/1"))
	is(t, "a bit more than 2/3, by many digits", show(code, ok, fault), "0 false 0")
	nearly.Num = nearly.Num[:1998] + "3"
	code, ok, fault = Automatic(c, "dog", nearly, parts("0/1"))
	is(t, "a bit less than 2/3, by many digits", show(code, ok, fault), "5 true 0")
}

// TestDemandFaults holds the errors of Automatic and Quality for least and gap, and their order (C5).
func TestDemandFaults(t *testing.T) {
	long := strings.Repeat("1", 2001)
	for _, x := range []struct {
		least, gap string
		want       api.Fault
	}{
		{"0/1", "1/1", api.OK}, {"1/1", "0/1", api.OK}, {"1/" + long[1:], "1/2", api.OK},
		{"2/4", "1/2", api.ErrForm}, {"1/2", "2/4", api.ErrForm}, {"", "1/2", api.ErrForm}, {"1/2", "", api.ErrForm}, {"1/0", "1/2", api.ErrForm}, {"1/2", "1/-2", api.ErrForm}, {"-0/1", "1/2", api.ErrForm}, {"1/2", "0/2", api.ErrForm},
		{"1/" + long, "1/2", api.ErrLarge}, {"1/2", long + "/1", api.ErrLarge},
		{"-1/2", "1/2", api.ErrRange}, {"1/2", "-1/2", api.ErrRange}, {"3/2", "1/2", api.ErrRange}, {"1/2", "3/2", api.ErrRange}, {"2/1", "2/1", api.ErrRange}, {"-1/1", "1/1", api.ErrRange},
		{long + "/1", "2/4", api.ErrLarge}, {"2/4", long + "/1", api.ErrForm}, {"3/2", "2/4", api.ErrForm}, {"-1/2", long + "/1", api.ErrLarge}, {"2/4", "-1/2", api.ErrForm},
	} {
		code, ok, fault := Automatic(fullCoder(), "", parts(x.least), parts(x.gap))
		refuses(t, show("Automatic", x), x.want, code, ok, fault)
		right, wrong, open, fault := Quality(fullCoder(), parts(x.least), parts(x.gap))
		refuses(t, show("Quality", x), x.want, right, wrong, open, fault)
		code, ok, fault = Automatic(fullCoder(), long, parts(x.least), parts(x.gap))
		refuses(t, show("Automatic of a long text", x), api.ErrLarge, code, ok, fault)
		bad := fullCoder()
		bad.Nodes = nil
		right, wrong, open, fault = Quality(bad, parts(x.least), parts(x.gap))
		refuses(t, show("Quality of a coder with an error", x), api.ErrNone, right, wrong, open, fault)
	}
}

func TestQuality(t *testing.T) {
	for _, x := range []struct{ what, examples, least, gap, want string }{
		{"an example alone", "5 dog", "0/1", "0/1", "0 0 1"},
		{"the same example twice", "5 dog, 5 dog", "1/1", "1/1", "2 0 0"},
		{"two codes", "5 dog, 3 dog", "0/1", "0/1", "0 2 0"},
		{"the others count", "5 dog, 5 dog, 3 dog", "1/2", "1/2", "0 1 2"},
		{"the others count, without a gap", "5 dog, 5 dog, 3 dog", "1/2", "0/1", "0 3 0"},
		{"the least code of two", "3 dog, 3 dog, 5 dog", "1/2", "0/1", "2 1 0"},
		{"words that only the example has", "5 big dog, 5 dog, 3 horse", "1/1", "0/1", "1 0 2"},
		{"words that only the example has count", "5 big dog, 5 dog, 3 horse", "1/2", "0/1", "2 0 1"},
		{"an example without words", "5 ..., 5 dog, 5 dog", "0/1", "0/1", "2 0 1"},
	} {
		c := learned(t, flat(9), x.examples)
		right, wrong, open, fault := Quality(c, parts(x.least), parts(x.gap))
		is(t, x.what, show(right, wrong, open, fault), x.want+" 0")
	}
	c := learned(t, flat(9), "5 dog, 3 dog, 5 cat")
	c.Rules = []api.CodeRule{{With: []string{"dog"}, Code: 5}}
	right, wrong, open, fault := Quality(c, parts("1/1"), parts("1/1"))
	is(t, "by a rule", show(right, wrong, open, fault), "1 1 1 0")
	right, wrong, open, fault = Quality(api.Coder{Nodes: flat(1)}, parts("1/1"), parts("1/1"))
	is(t, "no examples", show(right, wrong, open, fault), "0 0 0 0")
}
