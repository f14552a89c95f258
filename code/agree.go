package code

import (
	"cmp"
	"slices"

	"canvass/api"
	"canvass/value"
)

// pair is the codes that two coders gave to a case.
type pair struct{ first, second int }

// commonOf returns a pair for each common case of two coders, or an error that Confusions and Kappa share (C7).
func commonOf(l []api.Node, codings []api.Coding, a, b int) ([]pair, api.Fault) {
	if fault := CheckCodings(l, codings); fault != api.OK {
		return nil, fault
	}
	if !isCoder(a) || !isCoder(b) {
		return nil, api.ErrRange
	}
	var out []pair
	for _, c := range casesOf(codings) {
		p := pair{codeBy(c, a), codeBy(c, b)}
		if p.first != 0 && p.second != 0 {
			out = append(out, p)
		}
	}
	return out, api.OK
}

// codeBy returns the code that a coder gave to a case; 0 if there is none.
func codeBy(codings []api.Coding, coder int) int {
	n, is := slices.BinarySearchFunc(codings, coder, func(c api.Coding, coder int) int { return cmp.Compare(c.Coder, coder) })
	if !is {
		return 0
	}
	return codings[n].Code
}

func confusionsOf(pairs []pair) []api.Confusion {
	counts := map[pair]int{}
	for _, p := range pairs {
		counts[p]++
	}
	var out []api.Confusion
	for p, n := range counts {
		out = append(out, api.Confusion{First: p.first, Second: p.second, N: n})
	}
	slices.SortFunc(out, func(a, b api.Confusion) int {
		return cmp.Or(cmp.Compare(a.First, b.First), cmp.Compare(a.Second, b.Second))
	})
	return out
}

// kappaOf returns Kappa for at least one pair: numerator and denominator of its formula are both multiplied by the square of the number of pairs.
func kappaOf(pairs []pair) (api.Ratio, api.Fault) {
	equal := 0
	byFirst, bySecond := map[int]int{}, map[int]int{}
	for _, p := range pairs {
		byFirst[p.first]++
		bySecond[p.second]++
		if p.first == p.second {
			equal++
		}
	}
	all, chance := len(pairs), 0
	for code, n := range byFirst {
		chance += n * bySecond[code]
	}
	if chance == all*all {
		return value.RatioOf(1, 1)
	}
	return value.RatioOf(equal*all-chance, all*all-chance)
}

// difference returns how much two codes differ (C8).
func (f frame) difference(tree bool) func(a, b int) int {
	return func(a, b int) int {
		switch _, distance := f.meeting(a, b); {
		case tree:
			return distance * distance
		case distance > 0:
			return 1
		}
		return 0
	}
}

// alphaOf returns Alpha for cases with at least two codings each (C8).
func alphaOf(cases [][]api.Coding, difference func(a, b int) int) (api.Ratio, api.Fault) {
	all := 0
	counts := map[int]int{}
	sums := [api.MaxCoders + 1]int{} // of the differences within cases, by how many codings they have
	for _, c := range cases {
		within := map[int]int{}
		for _, coding := range c {
			within[coding.Code]++
			counts[coding.Code]++
		}
		sums[len(c)] += differences(within, difference)
		all += len(c)
	}
	expected := differences(counts, difference)
	if expected == 0 {
		return value.RatioOf(1, 1)
	}
	observed, fault := value.RatioOf(0, 1)
	for size := 2; size <= api.MaxCoders && fault == api.OK; size++ {
		observed, fault = plus(observed, sums[size], size-1)
	}
	if fault != api.OK {
		return api.Ratio{}, fault
	}
	return alphaBy(observed, all, expected)
}

// differences returns the sum of the differences of all ordered pairs of codes that occur so often.
func differences(counts map[int]int, difference func(a, b int) int) int {
	out := 0
	for a, n := range counts {
		for b, m := range counts {
			out += n * m * difference(a, b)
		}
	}
	return out
}

// plus returns r + num / den.
func plus(r api.Ratio, num, den int) (api.Ratio, api.Fault) {
	more, fault := value.RatioOf(num, den)
	if fault != api.OK {
		return api.Ratio{}, fault
	}
	return value.Sum(r, more)
}

// alphaBy returns 1 - (all - 1) observed / expected.
func alphaBy(observed api.Ratio, all, expected int) (api.Ratio, api.Fault) {
	factor, fault := value.RatioOf(1-all, expected)
	if fault != api.OK {
		return api.Ratio{}, fault
	}
	less, fault := value.Product(observed, factor)
	if fault != api.OK {
		return api.Ratio{}, fault
	}
	return plus(less, 1, 1)
}
