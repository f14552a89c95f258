package weight

import (
	"canvass/api"
	"canvass/whole"
)

// weighted returns each weight times the value of this person.
func weighted(weights []whole.Fraction, values []int) []whole.Fraction {
	out := make([]whole.Fraction, len(weights))
	for i, weight := range weights {
		out[i] = weight.Times(fraction(values[i]))
	}
	return out
}

// sums is the sums of the weights of some people and of weight times value, as numerators of fractions with the same denominator.
type sums struct{ weights, values whole.Int }

func (s sums) plus(t sums) sums { return sums{s.weights.Plus(t.weights), s.values.Plus(t.values)} }

func (s sums) times(factor int) sums {
	n := whole.Of(factor)
	return sums{s.weights.Times(n), s.values.Times(n)}
}

// shares is the sums of all people, and of the parts of each layer that has replicates, all with the denominator den. What is made of them can be very long, so no divisors are looked for on the way.
type shares struct {
	den    whole.Int
	all    sums
	layers [][]sums
}

func sharesOf(weights []whole.Fraction, values []int, layers [][]part) shares {
	out := shares{den: multiple(weights)}
	sumsOf := func(p part) sums {
		var s sums
		for _, i := range p.people {
			factor, _ := out.den.Divide(weights[i].Den)
			num := weights[i].Num.Times(factor)
			s = s.plus(sums{num, num.Times(whole.Of(values[i]))})
		}
		return s
	}
	for _, layer := range layers {
		list := make([]sums, len(layer))
		for number, p := range layer {
			list[number] = sumsOf(p)
		}
		out.all = out.all.plus(totalOf(list))
		if len(list) > 1 {
			out.layers = append(out.layers, list)
		}
	}
	return out
}

// multiple returns the least common multiple of the denominators.
func multiple(l []whole.Fraction) whole.Int {
	out := whole.Of(1)
	for _, f := range l {
		factor, _ := f.Den.Divide(whole.Common(out, f.Den))
		out = out.Times(factor)
	}
	return out
}

func totalOf(layer []sums) sums {
	var out sums
	for _, s := range layer {
		out = out.plus(s)
	}
	return out
}

// totalVariance returns the variance of the total (W9). With the total t of a layer and those of its p parts, t1, t2 and so on, the replicate without the first part differs by (t - p t1) / (p - 1), so the layer comes to (p (t1^2 + t2^2 + ..) - t^2) / (p - 1).
func (s shares) totalVariance() whole.Fraction {
	out := fraction(0)
	for _, layer := range s.layers {
		squares := whole.Of(0)
		for _, p := range layer {
			squares = squares.Plus(p.values.Times(p.values))
		}
		t := totalOf(layer).values
		num := squares.Times(whole.Of(len(layer))).Less(t.Times(t))
		out = out.Plus(whole.Over(num, whole.Of(len(layer)-1)))
	}
	return whole.Over(out.Num, out.Den.Times(s.den).Times(s.den))
}

// replicate is the sums of a replicate times p - 1, so that they have the denominator of all others, and p, which is the number of parts of its layer.
type replicate struct {
	sums
	parts int
}

// replicates returns the replicates of all layers. With the sums a of all people, t of a layer, and t1 of its part that is left out, those of the replicate times p - 1 are (p - 1) a + t - p t1.
func (s shares) replicates() []replicate {
	var out []replicate
	for _, layer := range s.layers {
		parts := len(layer)
		base := s.all.times(parts - 1).plus(totalOf(layer))
		for _, p := range layer {
			out = append(out, replicate{base.plus(p.times(-parts)), parts})
		}
	}
	return out
}

// meanVariance returns the variance of the mean (W9).
func (s shares) meanVariance() (api.Ratio, api.Fault) {
	l := s.replicates()
	if s.isSurelyLong(l) {
		return api.Ratio{}, api.ErrLarge
	}
	mean := whole.Over(s.all.values, s.all.weights)
	squares := make([]whole.Fraction, len(l))
	for i, r := range l {
		difference := whole.Over(r.values, r.weights).Plus(mean.Minus())
		squares[i] = difference.Times(difference).Times(whole.Over(whole.Of(r.parts-1), whole.Of(r.parts)))
	}
	return RatioOf(whole.Total(squares))
}
