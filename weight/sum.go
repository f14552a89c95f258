package weight

import (
	"strings"

	"canvass/api"
	"canvass/whole"
)

// RatioOf writes a number as a ratio, if it is within MaxDigits.
func RatioOf(f whole.Fraction) (api.Ratio, api.Fault) {
	if isLong(f.Num) || isLong(f.Den) {
		return api.Ratio{}, api.ErrLarge
	}
	num, den := f.Num.Text(), f.Den.Text()
	if len(strings.TrimPrefix(num, "-")) > api.MaxDigits || len(den) > api.MaxDigits {
		return api.Ratio{}, api.ErrLarge
	}
	return api.Ratio{Num: num, Den: den}, api.OK
}

// isLong reports whether n surely has more than MaxDigits digits: a digit is less than 10/3 bits. Texts of very long numbers need not be made.
func isLong(n whole.Int) bool { return n.Bits() > api.MaxDigits*10/3 }

// ratiosOf writes numbers as ratios.
func ratiosOf(l []whole.Fraction) ([]api.Ratio, api.Fault) {
	out := make([]api.Ratio, len(l))
	for i, f := range l {
		r, fault := RatioOf(f)
		if fault != api.OK {
			return nil, fault
		}
		out[i] = r
	}
	return out, api.OK
}

// fraction returns a whole number as a fraction.
func fraction(n int) whole.Fraction { return whole.Fraction{Num: whole.Of(n), Den: whole.Of(1)} }

// totalsBy returns the sums of numbers by the group in which each one is, of so many groups; below 0 a number is in none.
func totalsBy(l []whole.Fraction, groups int, groupOf func(i int) int) []whole.Fraction {
	lists := make([][]whole.Fraction, groups)
	for i, f := range l {
		if group := groupOf(i); group >= 0 {
			lists[group] = append(lists[group], f)
		}
	}
	out := make([]whole.Fraction, groups)
	for group, list := range lists {
		out[group] = whole.Total(list)
	}
	return out
}

// totalsInCells returns the sums of the weights in the cells of a margin.
func totalsInCells(l []api.Person, weights []whole.Fraction, margin, cells int) []whole.Fraction {
	return totalsBy(weights, cells, func(i int) int { return l[i].Cells[margin] })
}
