package study

import "canvass/whole"

// A column with the effective number n and the Part p of a row is above another one with m and q (T5) if p > q and, as one gets from what T5 says when it is multiplied by 625 n m (n + m),
//
//	625 (p - q)^2 n m (n + m) > 2401 (n p + m q) (n (1 - p) + m (1 - q)).
//
// These numbers can be very long, so both sides are first computed with numbers that are a bit too small, or too great: nearly always this decides.

// leastTested is the least effective number of columns that are compared.
const leastTested = 30

// side is n, p and 1 - p of a column, where n is told by how often it has some unit, and both others by how often they have one.
type side struct{ number, part, rest whole.Int }

// left returns the left side of what is compared, where gap is p - q.
func left(gap whole.Int, a, b side) whole.Int {
	return whole.Of(625).Times(gap).Times(gap).Times(a.number).Times(b.number).Times(a.number.Plus(b.number))
}

// right returns the right side, where unit is how many units of numbers 1 has: the left side has one factor more of these.
func right(a, b side, unit whole.Int) whole.Int {
	parts := a.number.Times(a.part).Plus(b.number.Times(b.part))
	rests := a.number.Times(a.rest).Plus(b.number.Times(b.rest))
	return whole.Of(2401).Times(parts).Times(rests).Times(unit)
}

// rival is a column as it is compared with others in a row. Neither n, p nor 1 - p is less than low says, or greater than high says, by a fine unit.
type rival struct {
	number, part whole.Fraction
	low, high    side
}

// fine is how often 1 has the unit of low and high of a rival.
func fine() whole.Int { return whole.Power(20) }

func rivalOf(number, part whole.Fraction) *rival {
	unit, one := fine(), whole.Of(1)
	least := func(f whole.Fraction) whole.Int {
		n, _ := f.Num.Times(unit).Divide(f.Den)
		return n
	}
	n, p := least(number), least(part)
	rest := unit.Less(p)
	low := side{n, p, rest.Less(one)}
	if low.rest.Sign() < 0 {
		low.rest = whole.Of(0)
	}
	return &rival{number, part, low, side{n.Plus(one), p.Plus(one), rest}}
}

// isAbove reports whether a column is above another one.
func (a *rival) isAbove(b *rival) bool {
	unit := fine()
	gap := a.high.part.Less(b.low.part)
	if gap.Sign() <= 0 || left(gap, a.high, b.high).Compare(right(a.low, b.low, unit)) <= 0 {
		return false
	}
	gap = a.low.part.Less(b.high.part)
	if gap.Sign() > 0 && left(gap, a.low, b.low).Compare(right(a.high, b.high, unit)) > 0 {
		return true
	}
	return a.isExactlyAbove(b)
}

// isExactlyAbove is isAbove with exact numbers, by the products of both denominators as units.
func (a *rival) isExactlyAbove(b *rival) bool {
	unit, one := a.number.Den.Times(b.number.Den), a.part.Den.Times(b.part.Den)
	sideOf := func(c, other *rival) side {
		part := c.part.Num.Times(other.part.Den)
		return side{c.number.Num.Times(other.number.Den), part, one.Less(part)}
	}
	x, y := sideOf(a, b), sideOf(b, a)
	gap := x.part.Less(y.part)
	return gap.Sign() > 0 && left(gap, x, y).Compare(right(x, y, unit)) > 0
}

// allAbove returns, for each column, the numbers of those that are less in a row, of which parts has the Parts.
func allAbove(columns []column, parts []whole.Fraction) [][]int {
	least := whole.Over(whole.Of(leastTested), whole.Of(1))
	rivals := make([]*rival, len(columns)) // nil: a column that is not compared
	for i, c := range columns {
		if c.effective.Compare(least) >= 0 {
			rivals[i] = rivalOf(c.effective, parts[i])
		}
	}
	out := make([][]int, len(columns))
	for i, a := range rivals {
		for k, b := range rivals {
			if a != nil && b != nil && a.isAbove(b) {
				out[i] = append(out[i], k)
			}
		}
	}
	return out
}
