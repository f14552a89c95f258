package whole

import (
	"cmp"
	"math/bits"
	"slices"
)

// The functions of this file compute with absolute values as Int has them. Their results are never changed later, and can be their arguments.

func trim(limbs []uint64) []uint64 {
	for len(limbs) > 0 && limbs[len(limbs)-1] == 0 {
		limbs = limbs[:len(limbs)-1]
	}
	return limbs
}

func compare(a, b []uint64) int {
	if len(a) != len(b) {
		return cmp.Compare(len(a), len(b))
	}
	for i := len(a) - 1; i >= 0; i-- {
		if a[i] != b[i] {
			return cmp.Compare(a[i], b[i])
		}
	}
	return 0
}

func sum(a, b []uint64) []uint64 {
	if len(a) < len(b) {
		a, b = b, a
	}
	out := make([]uint64, len(a)+1)
	copy(out, a)
	out[len(a)] = addTo(out[:len(a)], b)
	return trim(out)
}

// addTo adds b to a in place and returns the carry; a has at least as many limbs.
func addTo(a, b []uint64) uint64 {
	var carry uint64
	for i, limb := range b {
		a[i], carry = bits.Add64(a[i], limb, carry)
	}
	for i := len(b); carry > 0 && i < len(a); i++ {
		a[i], carry = bits.Add64(a[i], 0, carry)
	}
	return carry
}

// difference returns a - b; b is not greater than a.
func difference(a, b []uint64) []uint64 {
	out := slices.Clone(a)
	var borrow uint64
	for i := range out {
		var limb uint64
		if i < len(b) {
			limb = b[i]
		}
		out[i], borrow = bits.Sub64(out[i], limb, borrow)
	}
	return trim(out)
}

// timesPlus returns a * factor + more.
func timesPlus(a []uint64, factor, more uint64) []uint64 {
	out := make([]uint64, len(a)+1)
	for i, limb := range a {
		out[i], more = stepTimes(limb, factor, more)
	}
	out[len(a)] = more
	return trim(out)
}

// timesLess returns a * aTimes - b * bTimes, which is not less than 0 and has no more limbs than the longer one of a and b.
func timesLess(a []uint64, aTimes uint64, b []uint64, bTimes uint64) []uint64 {
	size := max(len(a), len(b))
	out := make([]uint64, size)
	var more, less, borrow uint64
	for i := range out {
		var plus, minus uint64
		if i < len(a) {
			plus = a[i]
		}
		if i < len(b) {
			minus = b[i]
		}
		plus, more = stepTimes(plus, aTimes, more)
		minus, less = stepTimes(minus, bTimes, less)
		out[i], borrow = bits.Sub64(plus, minus, borrow)
	}
	return trim(out)
}

// stepTimes returns the lower and the higher limb of limb * factor + more.
func stepTimes(limb, factor, more uint64) (uint64, uint64) {
	high, low := bits.Mul64(limb, factor)
	low, carry := bits.Add64(low, more, 0)
	return low, high + carry
}

func product(a, b []uint64) []uint64 {
	if len(a) > len(b) {
		a, b = b, a
	}
	out := make([]uint64, len(a)+len(b))
	for i, factor := range a {
		out[i+len(b)] = addTimes(out[i:i+len(b)], b, factor)
	}
	return trim(out)
}

// addTimes adds b * factor to a in place and returns the carry; both have equally many limbs.
func addTimes(a, b []uint64, factor uint64) uint64 {
	var more uint64
	for i, limb := range b {
		low, high := stepTimes(limb, factor, more)
		var carry uint64
		a[i], carry = bits.Add64(a[i], low, 0)
		more = high + carry
	}
	return more
}

// subtractTimes takes b * factor from a in place and reports whether a would have been less than it; a has one limb more.
func subtractTimes(a, b []uint64, factor uint64) bool {
	var more uint64
	for i, limb := range b {
		low, high := stepTimes(limb, factor, more)
		var carry uint64
		a[i], carry = bits.Sub64(a[i], low, 0)
		more = high + carry
	}
	var borrow uint64
	a[len(b)], borrow = bits.Sub64(a[len(b)], more, 0)
	return borrow > 0
}

// divide returns a / b, rounded down, and the rest; b is not 0.
func divide(a, b []uint64) ([]uint64, []uint64) {
	switch {
	case compare(a, b) < 0:
		return nil, a
	case len(b) == 1:
		quotient, rest := divideShort(a, b[0])
		return quotient, trim([]uint64{rest})
	}
	return divideLong(a, b)
}

func divideShort(a []uint64, divisor uint64) ([]uint64, uint64) {
	out := make([]uint64, len(a))
	var rest uint64
	for i := len(a) - 1; i >= 0; i-- {
		out[i], rest = bits.Div64(rest, a[i], divisor)
	}
	return trim(out), rest
}

// divideLong divides by at least two limbs.
func divideLong(a, b []uint64) ([]uint64, []uint64) {
	shift := bits.LeadingZeros64(b[len(b)-1])
	rest := shiftUp(a, shift)
	quotient := divideIn(rest, trim(shiftUp(b, shift)))
	return quotient, shiftDown(trim(rest), shift)
}

// divideIn returns rest / divisor, rounded down, and leaves the rest in place. The highest bit of the divisor is 1, since each limb of the quotient that is guessed from the highest limbs is then at most 2 too great. rest has more limbs, and as many of its highest ones as the divisor has are less than it.
func divideIn(rest, divisor []uint64) []uint64 {
	out := make([]uint64, len(rest)-len(divisor))
	for i := len(out) - 1; i >= 0; i-- {
		part := rest[i : i+len(divisor)+1]
		guess := guessLimb(part, divisor)
		below := subtractTimes(part, divisor, guess)
		for below {
			guess--
			below = addTo(part, divisor) == 0
		}
		out[i] = guess
	}
	return trim(out)
}

// guessLimb divides the two highest limbs of part by the highest one of divisor, as far as the result is one limb.
func guessLimb(part, divisor []uint64) uint64 {
	top := divisor[len(divisor)-1]
	high, low := part[len(divisor)], part[len(divisor)-1]
	if high >= top {
		return 1<<64 - 1
	}
	guess, _ := bits.Div64(high, low, top)
	return guess
}

// shiftUp returns a * 2^shift, for a shift of less than 64, with one limb more than a.
func shiftUp(a []uint64, shift int) []uint64 {
	out := make([]uint64, len(a)+1)
	for i, limb := range a {
		out[i] |= limb << shift
		out[i+1] = limb >> (64 - shift)
	}
	return out
}

// shiftDown returns a / 2^shift, rounded down, for a shift of less than 64.
func shiftDown(a []uint64, shift int) []uint64 {
	out := make([]uint64, len(a))
	for i, limb := range a {
		out[i] = limb >> shift
		if i > 0 {
			out[i-1] |= limb << (64 - shift)
		}
	}
	return trim(out)
}
