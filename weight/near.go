package weight

import (
	"canvass/api"
	"canvass/whole"
)

// isSurelyLong reports whether the variance of the mean is surely not within MaxDigits.
//
// It is a sum of fractions whose denominators have little in common: with 60 replicates of 3000 people, each with a denominator of their own, it can have millions of digits. So, if it can be long, it is first computed about so far that one can tell whether a ratio within MaxDigits is near enough to be it.
func (s shares) isSurelyLong(l []replicate) bool {
	size := s.all.weights.Bits()
	for _, r := range l {
		size += r.weights.Bits()
	}
	if size < 4*api.MaxDigits {
		return false
	}
	// Two ratios within MaxDigits are at least 1 / 10^(2 MaxDigits) apart, and what is known of the variance then is far less than that.
	one := whole.Power(2*api.MaxDigits + 100)
	low, high := s.bounds(l, one)
	num, den := simplest(low, high, one)
	return isLong(num) || isLong(den)
}

// bounds returns whole numbers: the variance of the mean is from the first one / one to the second one / one.
func (s shares) bounds(l []replicate, one whole.Int) (low, high whole.Int) {
	near := func(t sums) whole.Int {
		out, _ := t.values.Times(one).Divide(t.weights)
		return out
	}
	mean, two := near(s.all), whole.Of(2)
	for _, r := range l {
		// Both means are off by less than 1, so their difference is off by less than 2.
		least := near(r.sums).Less(mean).Size().Less(two)
		most := least.Plus(two).Plus(two)
		if least.Sign() < 0 {
			least = whole.Of(0)
		}
		num, den := whole.Of(r.parts-1), whole.Of(r.parts).Times(one)
		least, _ = least.Times(least).Times(num).Divide(den)
		most, _ = most.Times(most).Times(num).Divide(den)
		low, high = low.Plus(least), high.Plus(most).Plus(whole.Of(1))
	}
	return low, high
}

// simplest returns the ratio from low / one to high / one with the least numerator, which is also the one with the least denominator. Once it is sure that this one is not within MaxDigits, it returns the one that it has come to on the way there, which is not within MaxDigits either. low is not less than 0 and not greater than high.
//
// It is the least whole number that lies there, or, if there is none, the whole part that all numbers there have, and 1 divided by the simplest ratio of what lies beyond it.
func simplest(low, high, one whole.Int) (num, den whole.Int) {
	lowNum, lowDen, highNum, highDen := low, one, high, one
	num, lastDen := whole.Of(1), whole.Of(1)
	var lastNum whole.Int
	for !isLong(num) && !isLong(den) {
		part, lowRest := lowNum.Divide(lowDen)
		highPart, highRest := highNum.Divide(highDen)
		found := lowRest.Sign() == 0
		if !found && part.Compare(highPart) < 0 {
			part, found = part.Plus(whole.Of(1)), true
		}
		num, lastNum = part.Times(num).Plus(lastNum), num
		den, lastDen = part.Times(den).Plus(lastDen), den
		if found {
			break
		}
		lowNum, lowDen, highNum, highDen = highDen, highRest, lowDen, lowRest
	}
	return num, den
}
