package weight

import (
	"slices"

	"canvass/api"
	"canvass/whole"
)

// rake is people and margins as Rake goes through them (W5).
type rake struct {
	people []api.Person
	totals [][]whole.Fraction
	unit   whole.Int // the weights behind a margin are whole numbers of 1 / unit
}

// rakingOf checks what Rake asks for beyond margins and people, and returns the distance that is small enough.
func rakingOf(r api.Raking) (whole.Fraction, api.Fault) {
	if r.Places < 0 || r.Places > api.MaxPlaces || r.Rounds < 0 || r.Rounds > api.MaxRounds {
		return whole.Fraction{}, api.ErrRange
	}
	distance, fault := ShortOf(r.Distance)
	if fault != api.OK {
		return whole.Fraction{}, fault
	}
	if distance.Num.Sign() < 0 {
		return whole.Fraction{}, api.ErrRange
	}
	return distance, api.OK
}

// checkCells has ErrZero if nobody is in a cell that has a total other than 0.
func (k rake) checkCells() api.Fault {
	for margin, totals := range k.totals {
		taken := make([]bool, len(totals))
		for _, p := range k.people {
			taken[p.Cells[margin]] = true
		}
		for cell, total := range totals {
			if !taken[cell] && total.Num.Sign() != 0 {
				return api.ErrZero
			}
		}
	}
	return api.OK
}

// run makes rounds until the distance is at most enough, and returns the weights, how many rounds were made, and the distance.
func (k rake) run(weights []whole.Fraction, enough whole.Fraction, rounds int) ([]whole.Fraction, int, whole.Fraction) {
	distance := k.distance(func(margin int) []whole.Fraction { return k.sums(weights, margin) })
	if rounds == 0 || distance.Compare(enough) <= 0 {
		return weights, 0, distance
	}
	units, made := k.begin(weights), 1
	k.through(units, 1)
	distance = k.unitDistance(units)
	for made < rounds && distance.Compare(enough) > 0 {
		before := slices.Clone(units)
		k.through(units, 0)
		if slices.EqualFunc(before, units, whole.Int.Equal) {
			made = rounds // all further rounds leave the weights as they are, too
		} else {
			made, distance = made+1, k.unitDistance(units)
		}
	}
	return k.fractions(units), made, distance
}

// through goes through the margins from a first one on and changes the units.
func (k rake) through(units []whole.Int, first int) {
	for margin := first; margin < len(k.totals); margin++ {
		k.step(units, margin)
	}
}

func (k rake) unitDistance(units []whole.Int) whole.Fraction {
	return k.distance(func(margin int) []whole.Fraction { return k.fractions(k.unitSums(units, margin)) })
}

// sums returns the sums of the weights in the cells of a margin.
func (k rake) sums(weights []whole.Fraction, margin int) []whole.Fraction {
	return totalsInCells(k.people, weights, margin, len(k.totals[margin]))
}

// unitSums returns the sums of units in the cells of a margin.
func (k rake) unitSums(units []whole.Int, margin int) []whole.Int {
	sums := make([]whole.Sum, len(k.totals[margin]))
	for i, n := range units {
		sums[k.people[i].Cells[margin]].Add(n)
	}
	out := make([]whole.Int, len(sums))
	for cell := range sums {
		out[cell] = sums[cell].Int()
	}
	return out
}

// fractions returns what numbers of units are.
func (k rake) fractions(units []whole.Int) []whole.Fraction {
	out := make([]whole.Fraction, len(units))
	for i, n := range units {
		out[i] = whole.Over(n, k.unit)
	}
	return out
}

// distance returns the greatest difference of the sum of the weights in a cell and its total.
func (k rake) distance(sumsOf func(margin int) []whole.Fraction) whole.Fraction {
	greatest := fraction(0)
	for margin, totals := range k.totals {
		for cell, sum := range sumsOf(margin) {
			difference := sum.Plus(totals[cell].Minus())
			difference.Num = difference.Num.Size()
			if difference.Compare(greatest) > 0 {
				greatest = difference
			}
		}
	}
	return greatest
}

// begin goes through the first margin of the first round: only here can weights be other than whole numbers of units. There is a margin.
func (k rake) begin(weights []whole.Fraction) []whole.Int {
	factors, _ := quotients(k.totals[0], k.sums(weights, 0))
	for cell, f := range factors {
		factors[cell] = f.Times(whole.Fraction{Num: k.unit, Den: whole.Of(1)})
	}
	out := make([]whole.Int, len(weights))
	for i, weight := range weights {
		out[i] = weight.Times(factors[k.people[i].Cells[0]]).Nearest()
	}
	return out
}

// step goes through a margin and changes the units.
func (k rake) step(units []whole.Int, margin int) {
	scales := make([]*whole.Scale, len(k.totals[margin]))
	for cell, sum := range k.unitSums(units, margin) {
		if sum.Sign() != 0 {
			total := k.totals[margin][cell]
			scales[cell] = whole.ScaleOf(total.Num.Times(k.unit), total.Den.Times(sum))
		}
	}
	for i, n := range units {
		if scale := scales[k.people[i].Cells[margin]]; scale != nil {
			units[i] = scale.Nearest(n)
		}
	}
}
