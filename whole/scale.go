package whole

import (
	"math/bits"
	"slices"
)

// Scale multiplies many numbers by the same fraction, num / den, and rounds the results. It makes nothing new but these: it has room of its own for the products. It is made by ScaleOf.
type Scale struct {
	num, half, den []uint64 // 2 num, den and 2 den, all shifted up so far that the highest bit of 2 den is 1, as divideIn needs it
	product        []uint64
}

// ScaleOf makes a scale by num / den; num is not less than 0, den is greater than 0.
func ScaleOf(num, den Int) *Scale {
	two := Of(2)
	num, double := num.Times(two), den.Times(two)
	shift := bits.LeadingZeros64(double.limbs[len(double.limbs)-1])
	shifted := func(n Int) []uint64 { return trim(shiftUp(n.limbs, shift)) }
	return &Scale{num: shifted(num), half: shifted(den), den: shifted(double)}
}

// Nearest returns the whole number nearest to n * num / den, of two equally near ones the greater one. n is not less than 0.
func (s *Scale) Nearest(n Int) Int {
	size := max(len(n.limbs)+len(s.num), len(s.den)) + 1
	s.product = slices.Grow(s.product[:0], size)[:size]
	clear(s.product)
	for i, factor := range n.limbs {
		end := i + len(s.num)
		s.product[end] = addTimes(s.product[i:end], s.num, factor)
	}
	addTo(s.product, s.half)
	return Int{false, divideIn(s.product, s.den)}
}

// Sum is a sum that grows in place; the zero Sum is 0.
type Sum struct{ limbs []uint64 }

// Add adds n, which is not less than 0.
func (s *Sum) Add(n Int) {
	if missing := len(n.limbs) - len(s.limbs); missing > 0 {
		s.limbs = append(s.limbs, make([]uint64, missing)...)
	}
	if carry := addTo(s.limbs, n.limbs); carry > 0 {
		s.limbs = append(s.limbs, carry)
	}
}

// Int returns the sum so far.
func (s *Sum) Int() Int { return Int{false, slices.Clone(s.limbs)} }
