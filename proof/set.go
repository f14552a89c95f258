package proof

import (
	"math/bits"
	"slices"
)

// set is a set of numbers from 0 on: of mixtures, or of questions. A set does not change once it is made; those that are combined are equally long.
type set []uint64

// emptySet has room for so many numbers.
func emptySet(size int) set { return make(set, (size+63)/64) }

// fill adds the numbers of a range to a set that is being made.
func (s set) fill(from, before int) {
	for from < before {
		word, end := from/64, min(before, (from/64+1)*64)
		s[word] |= ^uint64(0) << (from % 64) & (^uint64(0) >> (63 - (end-1)%64))
		from = end
	}
}

func (s set) has(n int) bool { return s[n/64]>>(n%64)&1 == 1 }

func (s set) isEmpty() bool { return s.first() < 0 }

// first returns the least number, or -1.
func (s set) first() int {
	for i, word := range s {
		if word != 0 {
			return i*64 + bits.TrailingZeros64(word)
		}
	}
	return -1
}

func (s set) count() int {
	n := 0
	for _, word := range s {
		n += bits.OnesCount64(word)
	}
	return n
}

// numbers returns the numbers of a set, increasing.
func (s set) numbers() []int {
	var out []int
	for i, word := range s {
		for ; word != 0; word &= word - 1 {
			out = append(out, i*64+bits.TrailingZeros64(word))
		}
	}
	return out
}

func (s set) isWithin(t set) bool { return minus(s, t).isEmpty() }

func and(s, t set) set {
	out := slices.Clone(s)
	for i := range out {
		out[i] &= t[i]
	}
	return out
}

func or(s, t set) set {
	out := slices.Clone(s)
	for i := range out {
		out[i] |= t[i]
	}
	return out
}

func minus(s, t set) set {
	out := slices.Clone(s)
	for i := range out {
		out[i] &^= t[i]
	}
	return out
}

// unlike returns what just one of two sets has.
func unlike(s, t set) set { return or(minus(s, t), minus(t, s)) }
