package code

import (
	"cmp"
	"fmt"
	"maps"
	"math/big"
	"math/rand"
	"slices"
	"strings"
	"testing"

	"canvass/api"
)

// The functions of this file make the results of the package a second time, by the words of the chapter, with math/big.

func isAbove(l []api.Node, code, below int) bool {
	for _, n := range l {
		if n.Code == below {
			return n.Parent == code || n.Parent != 0 && isAbove(l, code, n.Parent)
		}
	}
	return false
}

func isOrIsAbove(l []api.Node, code, below int) bool {
	return code == below || isAbove(l, code, below)
}

func codesWhich(l []api.Node, has func(code int) bool) []int {
	var out []int
	for _, n := range l {
		if has(n.Code) {
			out = append(out, n.Code)
		}
	}
	return out
}

// levelAgain is how many codes are above a code, and 1.
func levelAgain(l []api.Node, code int) int {
	return 1 + len(codesWhich(l, func(other int) bool { return isAbove(l, other, code) }))
}

func lowestAgain(l []api.Node, codes []int) int {
	lowest := 0
	for _, code := range codes {
		if lowest == 0 || levelAgain(l, code) > levelAgain(l, lowest) {
			lowest = code
		}
	}
	return lowest
}

func meetingAgain(l []api.Node, a, b int) (int, int) {
	at := lowestAgain(l, codesWhich(l, func(code int) bool { return isOrIsAbove(l, code, a) && isOrIsAbove(l, code, b) }))
	level := 0
	if at != 0 {
		level = levelAgain(l, at)
	}
	return at, levelAgain(l, a) + levelAgain(l, b) - 2*level
}

func TestFramesByChance(t *testing.T) {
	r := rand.New(rand.NewSource(1))
	for range 300 {
		l := randomNodes(r)
		is(t, "CheckFrame", show(CheckFrame(l)), "0")
		for _, n := range l {
			above, fault := Above(l, n.Code)
			want := codesWhich(l, func(code int) bool { return isAbove(l, code, n.Code) })
			slices.SortFunc(want, func(a, b int) int { return levelAgain(l, b) - levelAgain(l, a) })
			is(t, show("Above", l, n), show(above, fault), show(want, 0))
			within, fault := Within(l, n.Code)
			is(t, show("Within", l, n), show(within, fault), show(codesWhich(l, func(code int) bool { return isOrIsAbove(l, n.Code, code) }), 0))
			other := randomCode(r, l)
			code, distance, fault := Meeting(l, n.Code, other)
			wanted, wantedDistance := meetingAgain(l, n.Code, other)
			is(t, show("Meeting", l, n, other), show(code, distance, fault), show(wanted, wantedDistance, 0))
		}
	}
}

// wordsAgain reads a text byte by byte.
func wordsAgain(c api.Coder, text string) []string {
	var out []string
	row := ""
	for i := range len(text) + 1 {
		if i < len(text) && strings.IndexByte("abcdefghijklmnopqrstuvwxyz0123456789ABCDEFGHIJKLMNOPQRSTUVWXYZ", text[i]) >= 0 {
			row += strings.ToLower(text[i : i+1])
			continue
		}
		word := row
		row = ""
		if len(word) > 30 {
			word = word[:30]
		}
		if word == "" || slices.Contains(c.Stops, word) {
			continue
		}
		for _, e := range c.Endings {
			if strings.HasSuffix(word, e.From) && len(word) >= len(e.From)+3 {
				word = word[:len(word)-len(e.From)] + e.To
				break
			}
		}
		if !slices.Contains(out, word) && len(out) < 60 {
			out = append(out, word)
		}
	}
	return out
}

// scoresAgain returns the score of each code that has one.
func scoresAgain(c api.Coder, text string) map[int]*big.Rat {
	words, sums := wordsAgain(c, text), map[int]*big.Rat{}
	for _, word := range words {
		all, by := 0, map[int]int{}
		for _, e := range c.Examples {
			if slices.Contains(wordsAgain(c, e.Text), word) {
				all++
				by[e.Code]++
			}
		}
		for code, n := range by {
			if sums[code] == nil {
				sums[code] = new(big.Rat)
			}
			sums[code].Add(sums[code], big.NewRat(int64(n), int64(all*len(words))))
		}
	}
	return sums
}

func proposeAgain(c api.Coder, text string) []api.Proposal {
	words := wordsAgain(c, text)
	for n, rule := range c.Rules {
		fits := true
		for _, word := range rule.With {
			fits = fits && slices.Contains(words, word)
		}
		for _, word := range rule.Without {
			fits = fits && !slices.Contains(words, word)
		}
		if fits {
			return []api.Proposal{{Code: rule.Code, Score: parts("1/1"), Rule: n}}
		}
	}
	scores := scoresAgain(c, text)
	codes := slices.SortedFunc(maps.Keys(scores), func(a, b int) int { return cmp.Or(scores[b].Cmp(scores[a]), a-b) })
	var out []api.Proposal
	for _, code := range codes[:min(10, len(codes))] {
		out = append(out, api.Proposal{Code: code, Score: ratioBy(scores[code]), Rule: -1})
	}
	return out
}

func automaticAgain(c api.Coder, text string, least, gap *big.Rat) (int, bool) {
	l := proposeAgain(c, text)
	if len(l) == 0 {
		return 0, false
	}
	score := func(p api.Proposal) *big.Rat {
		x, _ := new(big.Rat).SetString(p.Score.Num + "/" + p.Score.Den)
		return x
	}
	more := score(l[0])
	if len(l) > 1 {
		more = more.Sub(more, score(l[1]))
	}
	if score(l[0]).Cmp(least) < 0 || more.Cmp(gap) < 0 {
		return 0, false
	}
	return l[0].Code, true
}

// TestCodersByChance holds what coders propose (C4 and C5).
func TestCodersByChance(t *testing.T) {
	r := rand.New(rand.NewSource(2))
	byRule, several, taken, left := 0, 0, 0, 0
	for range 600 {
		c := randomCoder(r)
		is(t, "CheckCoder", show(CheckCoder(c)), "0")
		least, gap := big.NewRat(int64(r.Intn(5)), 6), big.NewRat(int64(r.Intn(3)), 6)
		for range 4 {
			text := randomText(r)
			words, fault := Words(c, text)
			is(t, show("Words", c, text), show(words, fault), show(wordsAgain(c, text), 0))
			l, fault := Propose(c, text)
			is(t, show("Propose", c, text), show(l, fault), show(proposeAgain(c, text), 0))
			code, ok, fault := Automatic(c, text, ratioBy(least), ratioBy(gap))
			wanted, wantedOk := automaticAgain(c, text, least, gap)
			is(t, show("Automatic", c, text), show(code, ok, fault), show(wanted, wantedOk, 0))
			switch {
			case len(l) > 0 && l[0].Rule >= 0:
				byRule++
			case len(l) > 1 && ok:
				several++
			}
		}
		counts := [3]int{}
		for i, e := range c.Examples {
			without := c
			without.Examples = slices.Delete(slices.Clone(c.Examples), i, i+1)
			code, ok := automaticAgain(without, e.Text, least, gap)
			switch {
			case !ok:
				counts[2]++
			case code == e.Code:
				counts[0]++
			default:
				counts[1]++
			}
		}
		right, wrong, open, fault := Quality(c, ratioBy(least), ratioBy(gap))
		is(t, show("Quality", c), show(right, wrong, open, fault), show(counts[0], counts[1], counts[2], 0))
		taken, left = taken+right+wrong, left+open
	}
	if byRule < 50 || several < 100 || taken < 500 || left < 500 {
		t.Error("the coders are too much alike", byRule, several, taken, left)
	}
}

func byCase(codings []api.Coding) map[int][]api.Coding {
	out := map[int][]api.Coding{}
	for _, c := range codings {
		out[c.Case] = append(out[c.Case], c)
	}
	return out
}

func finalsAgain(l []api.Node, codings []api.Coding) []api.Final {
	cases := byCase(codings)
	var out []api.Final
	for _, number := range slices.Sorted(maps.Keys(cases)) {
		all := len(cases[number])
		count := func(has func(code int) bool) int {
			n := 0
			for _, c := range cases[number] {
				if has(c.Code) {
					n++
				}
			}
			return n
		}
		most := codesWhich(l, func(code int) bool { return 2*count(func(other int) bool { return other == code }) > all })
		above := codesWhich(l, func(code int) bool { return 2*count(func(other int) bool { return isOrIsAbove(l, code, other) }) > all })
		f := api.Final{Case: number, Way: api.FinalOpen}
		switch {
		case count(func(code int) bool { return code == cases[number][0].Code }) == all:
			f.Code, f.Way = most[0], api.FinalAll
		case len(most) > 0:
			f.Code, f.Way = most[0], api.FinalMost
		case len(above) > 0:
			f.Code, f.Way = lowestAgain(l, above), api.FinalAbove
		}
		out = append(out, f)
	}
	return out
}

// kappaAgain goes by codes and by parts of the common cases.
func kappaAgain(l []api.Node, codings []api.Coding, a, b int) ([]api.Confusion, *big.Rat) {
	part := map[[2]int]int{}
	all := int64(0)
	for _, c := range byCase(codings) {
		pair := [2]int{}
		for _, coding := range c {
			if coding.Coder == a {
				pair[0] = coding.Code
			}
			if coding.Coder == b {
				pair[1] = coding.Code
			}
		}
		if pair[0] > 0 && pair[1] > 0 {
			part[pair]++
			all++
		}
	}
	var confusions []api.Confusion
	p, e := new(big.Rat), new(big.Rat)
	for _, first := range l {
		byFirst, bySecond := new(big.Rat), new(big.Rat)
		for _, second := range l {
			n := part[[2]int{first.Code, second.Code}]
			if n == 0 && part[[2]int{second.Code, first.Code}] == 0 {
				continue
			}
			if n > 0 {
				confusions = append(confusions, api.Confusion{First: first.Code, Second: second.Code, N: n})
			}
			byFirst.Add(byFirst, big.NewRat(int64(n), all))
			bySecond.Add(bySecond, big.NewRat(int64(part[[2]int{second.Code, first.Code}]), all))
			if first.Code == second.Code {
				p.Add(p, big.NewRat(int64(n), all))
			}
		}
		e.Add(e, byFirst.Mul(byFirst, bySecond))
	}
	one := big.NewRat(1, 1)
	switch {
	case all == 0:
		return nil, nil
	case e.Cmp(one) == 0:
		return confusions, one
	}
	return confusions, p.Quo(p.Sub(p, e), e.Sub(one, e))
}

// alphaAgain goes through all pairs of codings.
func alphaAgain(l []api.Node, codings []api.Coding, tree bool) *big.Rat {
	d := func(a, b int) int64 {
		_, distance := meetingAgain(l, a, b)
		if !tree {
			distance = min(distance, 1)
		}
		return int64(distance * distance)
	}
	o, x := new(big.Rat), new(big.Rat)
	var all []api.Coding
	for _, c := range byCase(codings) {
		if len(c) < 2 {
			continue
		}
		all = append(all, c...)
		for i, a := range c {
			for j, b := range c {
				if i != j {
					o.Add(o, big.NewRat(d(a.Code, b.Code), int64(len(c)-1)))
				}
			}
		}
	}
	for i, a := range all {
		for j, b := range all {
			if i != j {
				x.Add(x, big.NewRat(d(a.Code, b.Code), 1))
			}
		}
	}
	switch {
	case len(all) == 0:
		return nil
	case x.Sign() == 0:
		return big.NewRat(1, 1)
	}
	o.Mul(o, big.NewRat(int64(len(all)-1), 1))
	return o.Sub(big.NewRat(1, 1), o.Quo(o, x))
}

// holdRatio holds a ratio; there is none with a fault.
func holdRatio(t *testing.T, what string, want *big.Rat, got api.Ratio, fault api.Fault) {
	t.Helper()
	if want == nil {
		refuses(t, what, api.ErrNone, got, fault)
	} else {
		is(t, what, show(got, fault), show(ratioBy(want), 0))
	}
}

// TestCodingsByChance holds what people agree on (C6 to C8).
func TestCodingsByChance(t *testing.T) {
	r := rand.New(rand.NewSource(3))
	ways := [5]int{}
	for range 500 {
		l := randomNodes(r)
		codings := randomCodings(r, l)
		is(t, "CheckCodings", show(CheckCodings(l, codings)), "0")
		finals, fault := Finals(l, codings)
		is(t, show("Finals", l, codings), show(finals, fault), show(finalsAgain(l, codings), 0))
		for _, f := range finals {
			ways[f.Way]++
		}
		for _, x := range [][2]int{{1, 2}, {3, 5}, {6, 4}, {2, 2}} {
			what := show(l, codings, x)
			wanted, wantedKappa := kappaAgain(l, codings, x[0], x[1])
			confusions, fault := Confusions(l, codings, x[0], x[1])
			is(t, "Confusions "+what, show(confusions, fault), show(wanted, 0))
			kappa, fault := Kappa(l, codings, x[0], x[1])
			holdRatio(t, "Kappa "+what, wantedKappa, kappa, fault)
		}
		for _, tree := range []bool{false, true} {
			alpha, fault := Alpha(l, codings, tree)
			holdRatio(t, show("Alpha", l, codings, tree), alphaAgain(l, codings, tree), alpha, fault)
		}
	}
	for way := api.FinalAll; way <= api.FinalOpen; way++ {
		if ways[way] < 50 {
			t.Error("the codings are too much alike", ways)
		}
	}
}

// TestCarryingByChance holds Lift and Recode (C9).
func TestCarryingByChance(t *testing.T) {
	r := rand.New(rand.NewSource(4))
	for range 500 {
		l, next := randomNodes(r), randomNodes(r)
		codings := randomCodings(r, l)
		level := 1 + r.Intn(4)
		lifted, fault := Lift(l, codings, level)
		want := slices.Clone(codings)
		for i, c := range want {
			want[i].Code = lowestAgain(l, codesWhich(l, func(code int) bool { return isOrIsAbove(l, code, c.Code) && levelAgain(l, code) <= level }))
		}
		is(t, show("Lift", l, codings, level), show(lifted, fault), show(want, 0))
		var moves []api.Move
		for _, n := range l {
			if r.Intn(3) == 0 {
				moves = append(moves, api.Move{From: n.Code, To: []int{0, randomCode(r, next)}[r.Intn(2)]})
			}
		}
		var wantedCarried, wantedLeft []api.Coding
		for _, c := range codings {
			old := l[slices.IndexFunc(l, func(n api.Node) bool { return n.Code == c.Code })]
			n := slices.IndexFunc(moves, func(m api.Move) bool { return m.From == c.Code })
			stays := slices.ContainsFunc(next, func(n api.Node) bool { return n.Code == c.Code && n.Title == old.Title })
			switch {
			case n >= 0 && moves[n].To > 0:
				wantedCarried = append(wantedCarried, api.Coding{Case: c.Case, Coder: c.Coder, Code: moves[n].To})
			case n < 0 && stays:
				wantedCarried = append(wantedCarried, c)
			default:
				wantedLeft = append(wantedLeft, c)
			}
		}
		carried, left, fault := Recode(l, next, moves, codings)
		is(t, show("Recode", l, next, moves, codings), show(carried, left, fault), show(wantedCarried, wantedLeft, 0))
	}
}

// TestGreatLists holds that all is told of lists at their bounds, and soon.
func TestGreatLists(t *testing.T) {
	r := rand.New(rand.NewSource(5))
	l := append(chain(8), flat(600)[8:]...)
	for i := 8; i < len(l); i++ {
		l[i].Parent = r.Intn(8)
	}
	var codings []api.Coding
	for i := range api.MaxCodings {
		codings = append(codings, api.Coding{Case: 1 + i/api.MaxCoders, Coder: 1 + i%api.MaxCoders, Code: randomCode(r, l)})
	}
	finals, fault := Finals(l, codings)
	is(t, "Finals", show(len(finals), fault), "400 0")
	for _, tree := range []bool{false, true} {
		alpha, fault := Alpha(l, codings, tree)
		x, _ := new(big.Rat).SetString(alpha.Num + "/" + alpha.Den)
		if size, _ := x.Float64(); fault != api.OK || size < -0.01 || size > 0.01 {
			t.Error("Alpha of codings by chance", x.FloatString(5), fault)
		}
	}
	kappa, fault := Kappa(l, codings, 1, 50)
	if fault != api.OK || kappa.Num == "0" {
		t.Error("Kappa", kappa, fault)
	}
	moves := make([]api.Move, len(l))
	for i, n := range l {
		moves[i] = api.Move{From: n.Code, To: 1}
	}
	carried, left, fault := Recode(l, l, moves, codings)
	is(t, "Recode", show(len(carried), len(left), fault), "20000 0 0")
}

// TestGreatCoder holds that the quality of a coder at its bounds is told soon.
func TestGreatCoder(t *testing.T) {
	r := rand.New(rand.NewSource(6))
	c := api.Coder{Nodes: flat(600), Stops: numbered(60)}
	for i := range api.MaxEndings {
		c.Endings = append(c.Endings, api.Ending{From: fmt.Sprintf("x%02d", i), To: "y"})
	}
	for i := range api.MaxRules {
		c.Rules = append(c.Rules, api.CodeRule{With: append(numbered(59), "z"), Without: numbered(60), Code: i + 1})
	}
	for range api.MaxExamples {
		var words []string
		for range 160 {
			words = append(words, fmt.Sprintf("v%03dx%02d", r.Intn(300), r.Intn(60))[:4+3*r.Intn(2)])
		}
		text := strings.Join(words, " ")
		c.Examples = append(c.Examples, api.Example{Text: text[:min(len(text), api.MaxVerbatim)], Code: randomCode(r, c.Nodes)})
	}
	right, wrong, open, fault := Quality(c, parts("0/1"), parts("0/1"))
	if fault != api.OK || right+wrong+open != api.MaxExamples || open > 0 {
		t.Error("Quality", right, wrong, open, fault)
	}
}
