package weight

import (
	"slices"

	"canvass/api"
	"canvass/whole"
)

// trim is people whose great weights are made less (W6).
type trim struct {
	weights []whole.Fraction
	order   []int // people by weight, the greatest one first
	most    whole.Fraction
	sum     whole.Fraction
}

func trimOf(weights []whole.Fraction, most whole.Fraction) trim {
	order := make([]int, len(weights))
	for i := range order {
		order[i] = i
	}
	slices.SortFunc(order, func(a, b int) int { return weights[b].Compare(weights[a]) })
	return trim{weights, order, most, whole.Total(weights)}
}

// held returns how many people have the bound, which are the first ones of the order, and the sum of the Weights of the others.
//
// Where count people have the bound, a Weight w becomes w (sum - count bound) / rest, with the bound most sum / n. So it is greater than the bound just if w (n - most count) is greater than most rest: the sum, which can be very long, does not matter.
func (t trim) held() (int, whole.Fraction) {
	count, rest := 0, t.sum
	for {
		left, limit := t.left(count), t.most.Times(rest)
		next := count
		for next < len(t.order) && t.weights[t.order[next]].Times(left).Compare(limit) > 0 {
			next++
		}
		if next == count {
			return count, rest
		}
		for _, i := range t.order[count:next] {
			rest = rest.Plus(t.weights[i].Minus())
		}
		count = next
	}
}

// left returns n - most count.
func (t trim) left(count int) whole.Fraction {
	return fraction(len(t.weights)).Plus(t.most.Times(fraction(-count)))
}

// run returns the weights and how many people have the bound.
func (t trim) run() ([]api.Ratio, int, api.Fault) {
	count, rest := t.held()
	if count == 0 {
		out, fault := ratiosOf(t.weights)
		return out, 0, fault
	}
	mean := t.sum.Times(fraction(len(t.weights)).Inverse())
	bound, fault := RatioOf(t.most.Times(mean))
	if fault != api.OK {
		return nil, 0, fault
	}
	factor := mean.Times(t.left(count)).Times(rest.Inverse())
	out := make([]api.Ratio, len(t.weights))
	for _, i := range t.order[:count] {
		out[i] = bound
	}
	for _, i := range t.order[count:] {
		if out[i], fault = RatioOf(t.weights[i].Times(factor)); fault != api.OK {
			return nil, 0, fault
		}
	}
	return out, count, api.OK
}
