package whole

// Fraction is a fraction in lowest terms; Den is greater than 0. It is made by Over.
type Fraction struct{ Num, Den Int }

// Over returns num / den; den is not 0.
func Over(num, den Int) Fraction {
	divisor := Common(num, den)
	if den.below {
		divisor = divisor.Minus()
	}
	num, _ = num.Divide(divisor)
	den, _ = den.Divide(divisor)
	return Fraction{num, den}
}

// Plus returns f + g.
func (f Fraction) Plus(g Fraction) Fraction {
	return Over(f.Num.Times(g.Den).Plus(g.Num.Times(f.Den)), f.Den.Times(g.Den))
}

// Times returns f * g.
func (f Fraction) Times(g Fraction) Fraction {
	return Over(f.Num.Times(g.Num), f.Den.Times(g.Den))
}

// Inverse returns 1 / f; f is not 0.
func (f Fraction) Inverse() Fraction { return Over(f.Den, f.Num) }

// Compare returns -1, 0 or 1 as f is less than g, equal to it, or greater.
func (f Fraction) Compare(g Fraction) int {
	return f.Num.Times(g.Den).Compare(g.Num.Times(f.Den))
}

// Nearest returns the whole number nearest to f, of two equally near ones the one further from 0.
func (f Fraction) Nearest() Int {
	quotient, rest := f.Num.Divide(f.Den)
	if rest.Size().Times(Of(2)).Compare(f.Den) < 0 {
		return quotient
	}
	return quotient.Plus(Of(f.Num.Sign()))
}
