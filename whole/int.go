// Package whole has whole numbers of any size, and fractions of them. It knows nothing of canvass: package value and the layers above it compute with it what api.Ratio writes as texts.
package whole

import (
	"math/bits"
	"slices"
)

// Int is a whole number; the zero Int is 0. No Int is changed once it is made, so Ints can share memory.
type Int struct {
	below bool     // less than 0
	limbs []uint64 // the digits of the absolute value to the base 2^64, the lowest first; the highest one is not 0
}

// Of returns n.
func Of(n int) Int {
	if n == 0 {
		return Int{}
	}
	size := uint64(n)
	if n < 0 {
		size = -size
	}
	return Int{n < 0, []uint64{size}}
}

// Power returns 10 to the power of exponent, which is not less than 0.
func Power(exponent int) Int {
	limbs := []uint64{1}
	for ; exponent >= chunk; exponent -= chunk {
		limbs = timesPlus(limbs, chunkPower, 0)
	}
	for range exponent {
		limbs = timesPlus(limbs, 10, 0)
	}
	return Int{false, limbs}
}

// withSign keeps 0 without a sign, so that equal Ints have equal fields.
func withSign(below bool, limbs []uint64) Int {
	return Int{below && len(limbs) > 0, limbs}
}

// Sign returns -1, 0 or 1 as n is less than 0, 0, or greater.
func (n Int) Sign() int {
	switch {
	case n.below:
		return -1
	case len(n.limbs) == 0:
		return 0
	}
	return 1
}

// Minus returns the opposite.
func (n Int) Minus() Int { return withSign(!n.below, n.limbs) }

// Size returns the absolute value.
func (n Int) Size() Int { return Int{false, n.limbs} }

// Plus returns n + m.
func (n Int) Plus(m Int) Int {
	if n.below == m.below {
		return Int{n.below, sum(n.limbs, m.limbs)}
	}
	if compare(n.limbs, m.limbs) < 0 {
		n, m = m, n
	}
	return withSign(n.below, difference(n.limbs, m.limbs))
}

// Less returns n - m.
func (n Int) Less(m Int) Int { return n.Plus(m.Minus()) }

// Times returns n * m.
func (n Int) Times(m Int) Int {
	return withSign(n.below != m.below, product(n.limbs, m.limbs))
}

// Compare returns -1, 0 or 1 as n is less than m, equal to it, or greater.
func (n Int) Compare(m Int) int {
	switch {
	case n.below != m.below && n.below:
		return -1
	case n.below != m.below:
		return 1
	case n.below:
		return compare(m.limbs, n.limbs)
	}
	return compare(n.limbs, m.limbs)
}

// Equal reports whether n and m are the same number.
func (n Int) Equal(m Int) bool {
	return n.below == m.below && slices.Equal(n.limbs, m.limbs)
}

// Divide returns n / m, rounded towards 0, and the rest, which has the sign of n. m is not 0.
func (n Int) Divide(m Int) (Int, Int) {
	quotient, rest := divide(n.limbs, m.limbs)
	return withSign(n.below != m.below, quotient), withSign(n.below, rest)
}

// part returns n / m, where m divides n. Most divisors of fractions are 1, so that one is not divided by.
func (n Int) part(m Int) Int {
	if m.Equal(Of(1)) {
		return n
	}
	quotient, _ := n.Divide(m)
	return quotient
}

// Bits returns how many digits to the base 2 the absolute value has; 0 if n is 0.
func (n Int) Bits() int {
	if len(n.limbs) == 0 {
		return 0
	}
	return 64*(len(n.limbs)-1) + bits.Len64(n.limbs[len(n.limbs)-1])
}

// Common returns the greatest number that divides both n and m; 0 if both are 0.
func Common(n, m Int) Int {
	return Int{false, common(n.limbs, m.limbs)}
}
