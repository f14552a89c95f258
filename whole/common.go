package whole

import "math/bits"

// common returns the greatest common divisor. By Lehmer's way, the steps of Euclid's algorithm are first made with the highest 64 bits alone, as long as these decide the quotients, and then with the numbers, all at once: a number of 4000 digits needs thousands of steps.
func common(a, b []uint64) []uint64 {
	if compare(a, b) < 0 {
		a, b = b, a
	}
	for len(b) > 1 {
		if s := stepsOf(a, b); s.made {
			a, b = s.first(a, b), s.second(a, b)
		} else {
			_, rest := divide(a, b)
			a, b = b, rest
		}
	}
	if len(b) == 0 {
		return a
	}
	_, rest := divideShort(a, b[0])
	return []uint64{commonLimb(b[0], rest)}
}

func commonLimb(a, b uint64) uint64 {
	for b > 0 {
		a, b = b, a%b
	}
	return a
}

// steps are some steps of Euclid's algorithm at once: a and b become a0 a - b0 b and b1 b - a1 a, or, if the number of steps is odd, the opposites of both.
type steps struct {
	a0, b0, a1, b1 uint64
	odd            bool
	made           bool // otherwise the highest bits do not decide even the first quotient
}

func (s steps) first(a, b []uint64) []uint64 {
	return s.combine(a, s.a0, b, s.b0)
}

func (s steps) second(a, b []uint64) []uint64 {
	return s.combine(b, s.b1, a, s.a1)
}

func (s steps) combine(a []uint64, aTimes uint64, b []uint64, bTimes uint64) []uint64 {
	if s.odd {
		a, aTimes, b, bTimes = b, bTimes, a, aTimes
	}
	return timesLess(a, aTimes, b, bTimes)
}

// stepsOf makes steps with the highest 64 bits of a, and the bits of b at the same places. A step counts if the condition of Collins holds behind it: then its quotient is that of the whole numbers. a is not less than b, which has at least two limbs.
func stepsOf(a, b []uint64) steps {
	shift := bits.LeadingZeros64(a[len(a)-1])
	highA, highB := window(a, len(a), shift), window(b, len(a), shift)
	s := steps{a0: 1, b1: 1}
	for highB > 0 {
		quotient := highA / highB
		highA, highB = highB, highA%highB
		next := steps{a0: s.a1, b0: s.b1, a1: s.a0 + quotient*s.a1, b1: s.b0 + quotient*s.b1, odd: !s.odd, made: true}
		if highB < next.b1 || highA-highB < next.b0+next.b1 {
			break
		}
		s = next
	}
	return s
}

// window returns the 64 bits of a that begin shift bits below the top of its limb number size - 1; limbs that it does not have are 0.
func window(a []uint64, size, shift int) uint64 {
	var high, low uint64
	if size <= len(a) {
		high = a[size-1]
	}
	if size-1 <= len(a) {
		low = a[size-2]
	}
	return high<<shift | low>>(64-shift)
}
