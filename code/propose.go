package code

import (
	"cmp"
	"slices"

	"canvass/api"
	"canvass/value"
	"canvass/whole"
)

// demand is what Automatic asks of the first proposal.
type demand struct{ least, gap whole.Fraction }

// demandOf returns a demand, or the errors of Automatic for it (C5).
func demandOf(least, gap api.Ratio) (demand, api.Fault) {
	for _, r := range []api.Ratio{least, gap} {
		if fault := value.CheckRatio(r); fault != api.OK {
			return demand{}, fault
		}
	}
	d := demand{fractionOf(least), fractionOf(gap)}
	for _, f := range []whole.Fraction{d.least, d.gap} {
		if f.Num.Sign() < 0 || f.Num.Compare(f.Den) > 0 {
			return demand{}, api.ErrRange
		}
	}
	return d, api.OK
}

// fractionOf returns the number that a sound ratio writes.
func fractionOf(r api.Ratio) whole.Fraction {
	num, _ := whole.Read(r.Num)
	den, _ := whole.Read(r.Den)
	return whole.Fraction{Num: num, Den: den}
}

// ratioOf writes a score, which has far fewer digits than a ratio can have: it is a sum of parts of api.MaxExamples for api.MaxWords words.
func ratioOf(f whole.Fraction) api.Ratio {
	return api.Ratio{Num: f.Num.Text(), Den: f.Den.Text()}
}

// machine is a coder that is ready for texts.
type machine struct {
	stemmer
	rules []api.CodeRule
	uses  uses
}

// machineOf returns a sound coder with the words of its examples.
func machineOf(c api.Coder) (machine, [][]string) {
	m := machine{stemmerOf(c), c.Rules, uses{}}
	words := make([][]string, len(c.Examples))
	for i, e := range c.Examples {
		words[i] = m.words(e.Text)
		m.uses.count(words[i], e.Code, 1)
	}
	return m, words
}

// proposal is a proposal whose score is a number.
type proposal struct {
	code  int
	score whole.Fraction
	rule  int
}

// proposals returns the first proposals for a text with some words, at most so many.
func (m machine) proposals(words []string, most int) []proposal {
	if n := m.rule(words); n >= 0 {
		return []proposal{{m.rules[n].Code, whole.Over(whole.Of(1), whole.Of(1)), n}}
	}
	return m.uses.proposals(words, most)
}

// rule returns the number of the first rule that some words fulfil; -1 if there is none.
func (m machine) rule(words []string) int {
	known := map[string]bool{}
	for _, word := range words {
		known[word] = true
	}
	isKnown := func(word string) bool { return known[word] }
	isUnknown := func(word string) bool { return !known[word] }
	return slices.IndexFunc(m.rules, func(r api.CodeRule) bool {
		return !slices.ContainsFunc(r.With, isUnknown) && !slices.ContainsFunc(r.Without, isKnown)
	})
}

// automatic returns the code of the first proposal, if it meets a demand.
func (m machine) automatic(words []string, d demand) (int, bool) {
	l := m.proposals(words, 2)
	if len(l) == 0 || l[0].score.Compare(d.least) < 0 {
		return 0, false
	}
	needed := d.gap
	if len(l) > 1 {
		needed = needed.Plus(l[1].score)
	}
	if l[0].score.Compare(needed) < 0 {
		return 0, false
	}
	return l[0].code, true
}

// use is in how many examples a word is, and in how many of each code, in the order of codes.
type use struct {
	total  int
	shares []share
}

type share struct{ code, count int }

// uses has the use of each word.
type uses map[string]*use

// count counts an example with some words and a code so many times more.
func (u uses) count(words []string, code, times int) {
	for _, word := range words {
		if u[word] == nil {
			u[word] = &use{}
		}
		x := u[word]
		n, is := x.find(code)
		if !is {
			x.shares = slices.Insert(x.shares, n, share{code: code})
		}
		x.shares[n].count += times
		x.total += times
	}
}

// find returns the number of the share of a code, or the one that it would have.
func (x *use) find(code int) (int, bool) {
	return slices.BinarySearchFunc(x.shares, code, func(s share, code int) int { return cmp.Compare(s.code, code) })
}

// of returns in how many examples of a code the word is.
func (x *use) of(code int) int {
	if n, is := x.find(code); is {
		return x.shares[n].count
	}
	return 0
}

// proposals returns the first proposals that examples make for some words, at most so many.
func (u uses) proposals(words []string, most int) []proposal {
	var used []*use
	for _, word := range words {
		if x := u[word]; x != nil && x.total > 0 {
			used = append(used, x)
		}
	}
	slices.SortFunc(used, func(a, b *use) int { return cmp.Compare(a.total, b.total) })
	multiple, weights := weightsOf(used)
	var sums []sum
	for _, code := range likely(used, most) {
		sums = append(sums, sumOf(code, used, weights))
	}
	slices.SortFunc(sums, func(a, b sum) int { return cmp.Or(b.times.Compare(a.times), cmp.Compare(a.code, b.code)) })
	var out []proposal
	for _, s := range sums[:min(len(sums), most)] {
		out = append(out, proposal{s.code, whole.Over(s.times, multiple.Times(whole.Of(len(words)))), -1})
	}
	return out
}

// sum is the sum of the parts that a code has of some uses, times their least common multiple.
type sum struct {
	code  int
	times whole.Int
}

// sumOf counts together for uses with the same total, which stand together.
func sumOf(code int, used []*use, weights []whole.Int) sum {
	out, count := sum{code: code}, 0
	for i, x := range used {
		count += x.of(code)
		if i+1 == len(used) || used[i+1].total > x.total {
			out.times = out.times.Plus(weights[i].Times(whole.Of(count)))
			count = 0
		}
	}
	return out
}

// weightsOf returns the least common multiple of the totals of uses, and how often it has each of them.
func weightsOf(used []*use) (whole.Int, []whole.Int) {
	multiple := whole.Of(1)
	for _, x := range used {
		total := whole.Of(x.total)
		factor, _ := total.Divide(whole.Common(multiple, total))
		multiple = multiple.Times(factor)
	}
	weights := make([]whole.Int, len(used))
	for i, x := range used {
		weights[i], _ = multiple.Divide(whole.Of(x.total))
	}
	return multiple, weights
}

// fine is how many steps a part of 1 has when it is rounded. With api.MaxExamples times as many, and with the sum for api.MaxWords words, int suffices.
const fine = 1 << 50

// likely returns codes among which are the best ones, at least so many if there are, all with scores greater than 0. It looks at sums that are rounded down, by less than 1 for each use: to have exact ones of all codes would take long.
func likely(used []*use, most int) []int {
	floors := make([]int, api.MaxCode+1)
	for _, x := range used {
		for _, s := range x.shares {
			floors[s.code] += s.count * fine / x.total
		}
	}
	ordered := slices.Sorted(slices.Values(floors))
	needed := ordered[len(ordered)-most]
	var out []int
	for code, floor := range floors {
		if floor > 0 && floor+len(used) > needed {
			out = append(out, code)
		}
	}
	return out
}
