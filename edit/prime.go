package edit

import (
	"slices"

	"canvass/api"
)

// primer looks for prime boxes.
type primer struct {
	*plan
	passing []box
	found   []box
}

// primes returns all prime boxes (E5).
//
// Those that are found have all records that fail, and of each two of them, and each field, the joint box is within one that is found. Then each closed box is within one: otherwise, of those that are not, take one with the fewest codes. It has a field with several codes, since each record is within one; divided there, its two parts have fewer codes, so they are within two that are found, and it is within the joint box of these.
func (p *plan) primes() ([]box, api.Fault) {
	s := primer{plan: p, passing: p.passing()}
	for i := range p.edits {
		if !s.add(&p.edits[i]) {
			return nil, api.ErrLarge
		}
	}
	// The list grows on the way.
	for i := 0; i < len(s.found); i++ {
		for j := range i {
			if !s.join(s.found[i], s.found[j]) {
				return nil, api.ErrLarge
			}
		}
	}
	return s.found, api.OK
}

// join adds the joint boxes of two boxes. It reports whether there are not too many then.
func (s *primer) join(a, b box) bool {
	for i := range s.fields {
		if joint := joined(a, b, i); !s.isEmpty(joint) && !s.add(&joint) {
			return false
		}
	}
	return true
}

// joined returns the box that has the codes of both of two boxes for one field, and for all other ones those that are in both. It is closed if they are.
func joined(a, b box, field int) box {
	out := a
	for i := range out {
		out[i] &= b[i]
	}
	out[field] = a[field] | b[field]
	return out
}

// add adds a prime box that a closed box is within, unless it is within one that is found. It reports whether there are not too many then.
func (s *primer) add(closed *box) bool {
	if !slices.ContainsFunc(s.found, func(prime box) bool { return closed.isWithin(&prime) }) {
		s.found = append(s.found, s.widened(*closed))
	}
	return len(s.found) <= api.MaxPrimes
}

// widened gives a closed box, field by field, all codes with which it stays closed. What could not be added to a field cannot be added later, when the box has more.
func (s *primer) widened(b box) box {
	for i := range s.fields {
		b[i] = s.full[i]
		var barred set
		for n := range s.passing {
			if part := &s.passing[n]; s.meet(&b, part) {
				barred |= part[i]
			}
		}
		b[i] &^= barred
	}
	return b
}

// meet reports whether some record is in both of two boxes.
func (p *plan) meet(a, b *box) bool {
	for i := range p.fields {
		if a[i]&b[i] == 0 {
			return false
		}
	}
	return true
}
