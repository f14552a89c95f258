package edit

import (
	"math/bits"

	"canvass/api"
)

// set is a set of numbers from 0 to 63, as bits: of codes of a field, by their places; of fields; or of edits.
type set uint64

func only(n int) set { return 1 << n }

// upTo returns the set of the first numbers, so many of them.
func upTo(count int) set { return only(count) - 1 }

func (s set) has(n int) bool { return s&only(n) != 0 }

// first returns the least number of a set that is not empty.
func (s set) first() int { return bits.TrailingZeros64(uint64(s)) }

// numbers returns the numbers of a set, increasing.
func (s set) numbers() []int {
	var out []int
	for ; s != 0; s &= s - 1 {
		out = append(out, s.first())
	}
	return out
}

// box is a set of codes for each field: an edit, or some records with valid values. A record is the box that has its values alone, with empty sets for those that are not valid. What stands behind the fields of the plan is empty.
type box [api.MaxFields]set

// isWithin reports whether another box has all codes of a box.
func (b *box) isWithin(other *box) bool {
	for i, codes := range b {
		if codes&^other[i] != 0 {
			return false
		}
	}
	return true
}
