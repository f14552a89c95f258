package weight

import (
	"slices"

	"canvass/api"
	"canvass/whole"
)

// responseFactors returns by what the weights of those who have answered are multiplied, for each class (W3).
func responseFactors(l []api.Person, weights []whole.Fraction, answered []bool) ([]whole.Fraction, api.Fault) {
	all := totalsBy(weights, api.MaxClasses+1, func(i int) int { return l[i].Class })
	heard := totalsBy(weights, api.MaxClasses+1, func(i int) int {
		if !answered[i] {
			return -1
		}
		return l[i].Class
	})
	return quotients(all, heard)
}

// quotients divides elements by those with the same number; what is 0 stays, whatever its divisor is.
func quotients(l, divisors []whole.Fraction) ([]whole.Fraction, api.Fault) {
	out := make([]whole.Fraction, len(l))
	for i, f := range l {
		switch {
		case f.Num.Sign() == 0:
			out[i] = f
		case divisors[i].Num.Sign() == 0:
			return nil, api.ErrZero
		default:
			out[i] = f.Times(divisors[i].Inverse())
		}
	}
	return out, api.OK
}

// multiplied returns the weights, each times its factor, as ratios.
func multiplied(weights []whole.Fraction, factorOf func(i int) whole.Fraction) ([]api.Ratio, api.Fault) {
	out := make([]api.Ratio, len(weights))
	for i, weight := range weights {
		r, fault := RatioOf(weight.Times(factorOf(i)))
		if fault != api.OK {
			return nil, fault
		}
		out[i] = r
	}
	return out, api.OK
}

// spreadOf describes at least one weight (W7).
func spreadOf(weights []whole.Fraction) (api.Spread, api.Fault) {
	sum, people := whole.Total(weights), fraction(len(weights))
	squares := make([]whole.Fraction, len(weights))
	for i, weight := range weights {
		squares[i] = weight.Times(weight)
	}
	effective := sum.Times(sum).Times(whole.Total(squares).Inverse())
	l, fault := ratiosOf([]whole.Fraction{
		sum, slices.MinFunc(weights, whole.Fraction.Compare), slices.MaxFunc(weights, whole.Fraction.Compare),
		sum.Times(people.Inverse()), effective, people.Times(effective.Inverse()),
	})
	if fault != api.OK {
		return api.Spread{}, fault
	}
	return api.Spread{Sum: l[0], Least: l[1], Most: l[2], Mean: l[3], Effective: l[4], Effect: l[5]}, api.OK
}
