package whole

// Fraction is a fraction in lowest terms; Den is greater than 0. It is made by Over.
type Fraction struct{ Num, Den Int }

// Over returns num / den; den is not 0.
func Over(num, den Int) Fraction {
	divisor := Common(num, den)
	if den.below {
		divisor = divisor.Minus()
	}
	return Fraction{num.part(divisor), den.part(divisor)}
}

// Plus returns f + g. What divides numerator and denominator of the sum divides both denominators, so no divisor is looked for in numbers as long as the sum.
func (f Fraction) Plus(g Fraction) Fraction {
	divisor := Common(f.Den, g.Den)
	rest := f.Den.part(divisor)
	num := f.Num.Times(g.Den.part(divisor)).Plus(g.Num.Times(rest))
	divisor = Common(num, divisor)
	return Fraction{num.part(divisor), rest.Times(g.Den.part(divisor))}
}

// Minus returns the opposite.
func (f Fraction) Minus() Fraction { return Fraction{f.Num.Minus(), f.Den} }

// Times returns f * g: each numerator is in lowest terms with its own denominator already.
func (f Fraction) Times(g Fraction) Fraction {
	first, second := Common(f.Num, g.Den), Common(g.Num, f.Den)
	return Fraction{f.Num.part(first).Times(g.Num.part(second)), f.Den.part(second).Times(g.Den.part(first))}
}

// Inverse returns 1 / f; f is not 0.
func (f Fraction) Inverse() Fraction {
	if f.Num.below {
		return Fraction{f.Den.Minus(), f.Num.Minus()}
	}
	return Fraction{f.Den, f.Num}
}

// Compare returns -1, 0 or 1 as f is less than g, equal to it, or greater.
func (f Fraction) Compare(g Fraction) int {
	return f.Num.Times(g.Den).Compare(g.Num.Times(f.Den))
}

// Total returns the sum of numbers. It is made by halves, so that few sums are as long as the last one.
func Total(l []Fraction) Fraction {
	switch len(l) {
	case 0:
		return Fraction{Of(0), Of(1)}
	case 1:
		return l[0]
	}
	half := len(l) / 2
	return Total(l[:half]).Plus(Total(l[half:]))
}

// Nearest returns the whole number nearest to f, of two equally near ones the one further from 0.
func (f Fraction) Nearest() Int { return Nearest(f.Num, f.Den) }

// Nearest returns the whole number nearest to num / den, of two equally near ones the one further from 0. den is greater than 0.
func Nearest(num, den Int) Int {
	quotient, rest := num.Divide(den)
	if size := rest.Size(); size.Plus(size).Compare(den) < 0 {
		return quotient
	}
	return quotient.Plus(Of(num.Sign()))
}
