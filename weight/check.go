package weight

import (
	"strings"

	"canvass/api"
	"canvass/value"
	"canvass/whole"
)

// ShortOf returns the number that a short ratio writes, or the errors of a short ratio.
func ShortOf(r api.Ratio) (whole.Fraction, api.Fault) {
	if fault := value.CheckRatio(r); fault != api.OK {
		return whole.Fraction{}, fault
	}
	if len(strings.TrimPrefix(r.Num, "-")) > api.MaxShort || len(r.Den) > api.MaxShort {
		return whole.Fraction{}, api.ErrLarge
	}
	num, _ := whole.Read(r.Num)
	den, _ := whole.Read(r.Den)
	return whole.Fraction{Num: num, Den: den}, api.OK
}

// totalsOf returns the totals of the cells of each margin, or the error of CheckMargins (W2).
func totalsOf(m []api.Margin) ([][]whole.Fraction, api.Fault) {
	if len(m) > api.MaxMargins {
		return nil, api.ErrLarge
	}
	names := map[string]bool{}
	out := make([][]whole.Fraction, len(m))
	for i, margin := range m {
		if !value.IsName(margin.Name) {
			return nil, api.ErrName
		}
		if names[margin.Name] {
			return nil, api.ErrTwice
		}
		names[margin.Name] = true
		totals, fault := cellsOf(margin.Totals)
		if fault != api.OK {
			return nil, fault
		}
		out[i] = totals
	}
	for _, totals := range out {
		if whole.Total(totals).Compare(whole.Total(out[0])) != 0 {
			return nil, api.ErrConflict
		}
	}
	return out, api.OK
}

// cellsOf returns the totals of one margin, or their error.
func cellsOf(totals []api.Ratio) ([]whole.Fraction, api.Fault) {
	if len(totals) == 0 {
		return nil, api.ErrNone
	}
	if len(totals) > api.MaxMarginSize {
		return nil, api.ErrLarge
	}
	out := make([]whole.Fraction, len(totals))
	for i, r := range totals {
		f, fault := ShortOf(r)
		if fault != api.OK {
			return nil, fault
		}
		if f.Num.Sign() < 0 {
			return nil, api.ErrRange
		}
		out[i] = f
	}
	return out, api.OK
}

// marginsAndWeights returns the totals of margins and the weights of people, or the error of CheckPeople (W2).
func marginsAndWeights(m []api.Margin, l []api.Person) ([][]whole.Fraction, []whole.Fraction, api.Fault) {
	totals, fault := totalsOf(m)
	if fault != api.OK {
		return nil, nil, fault
	}
	weights, fault := weightsBy(l, func(cells []int) api.Fault {
		if len(cells) != len(m) {
			return api.ErrForm
		}
		for i, cell := range cells {
			if cell < 0 || cell >= len(totals[i]) {
				return api.ErrRange
			}
		}
		return api.OK
	})
	if fault != api.OK {
		return nil, nil, fault
	}
	return totals, weights, api.OK
}

// weightsOf returns the weights of people, or the errors of people alone (W2).
func weightsOf(l []api.Person) ([]whole.Fraction, api.Fault) {
	return weightsBy(l, func(cells []int) api.Fault {
		if len(cells) > api.MaxMargins {
			return api.ErrForm
		}
		for _, cell := range cells {
			if cell < 0 || cell >= api.MaxMarginSize {
				return api.ErrRange
			}
		}
		return api.OK
	})
}

// weightsBy returns the weights of people, or their errors, where check has those of Cells.
func weightsBy(l []api.Person, check func(cells []int) api.Fault) ([]whole.Fraction, api.Fault) {
	if len(l) > api.MaxPeople {
		return nil, api.ErrLarge
	}
	out := make([]whole.Fraction, len(l))
	for i, p := range l {
		weight, fault := ShortOf(p.Weight)
		if fault != api.OK {
			return nil, fault
		}
		if weight.Num.Sign() <= 0 {
			return nil, api.ErrRange
		}
		if fault := check(p.Cells); fault != api.OK {
			return nil, fault
		}
		if !isClass(p.Class) || !isClass(p.Layer) || !isClass(p.Part) {
			return nil, api.ErrRange
		}
		out[i] = weight
	}
	return out, api.OK
}

func isClass(number int) bool { return number >= 0 && number <= api.MaxClasses }

// weightsFor returns the weights of people, or the errors of people and of their values (W9).
func weightsFor(l []api.Person, values []int) ([]whole.Fraction, api.Fault) {
	weights, fault := weightsOf(l)
	if fault != api.OK {
		return nil, fault
	}
	if len(values) != len(l) {
		return nil, api.ErrForm
	}
	for _, v := range values {
		if v < -api.MaxShares || v > api.MaxShares {
			return nil, api.ErrRange
		}
	}
	return weights, api.OK
}
