package value

import (
	"strings"

	"canvass/api"
	"canvass/whole"
)

// CheckRatio validates a ratio (V5).
func CheckRatio(r api.Ratio) api.Fault {
	_, fault := fractionOf(r)
	return fault
}

// fractionOf returns the number that a ratio writes.
func fractionOf(r api.Ratio) (whole.Fraction, api.Fault) {
	if len(strings.TrimPrefix(r.Num, "-")) > api.MaxDigits || len(r.Den) > api.MaxDigits {
		return whole.Fraction{}, api.ErrLarge
	}
	num, isNum := whole.Read(r.Num)
	den, isDen := whole.Read(r.Den)
	if !isNum || !isDen || den.Sign() <= 0 || !whole.Common(num, den).Equal(whole.Of(1)) {
		return whole.Fraction{}, api.ErrForm
	}
	return whole.Fraction{Num: num, Den: den}, api.OK
}

// ratioOf writes a number as a ratio, if it is within MaxDigits.
func ratioOf(f whole.Fraction) (api.Ratio, api.Fault) {
	num, den := f.Num.Text(), f.Den.Text()
	if len(strings.TrimPrefix(num, "-")) > api.MaxDigits || len(den) > api.MaxDigits {
		return api.Ratio{}, api.ErrLarge
	}
	return api.Ratio{Num: num, Den: den}, api.OK
}

func fractionsOf(a, b api.Ratio) (whole.Fraction, whole.Fraction, api.Fault) {
	f, fault := fractionOf(a)
	if fault != api.OK {
		return whole.Fraction{}, whole.Fraction{}, fault
	}
	g, fault := fractionOf(b)
	if fault != api.OK {
		return whole.Fraction{}, whole.Fraction{}, fault
	}
	return f, g, api.OK
}

// RatioOf returns num / den (V5).
func RatioOf(num, den int) (api.Ratio, api.Fault) {
	if den == 0 {
		return api.Ratio{}, api.ErrZero
	}
	return ratioOf(whole.Over(whole.Of(num), whole.Of(den)))
}

// Sum returns a + b (V5).
func Sum(a, b api.Ratio) (api.Ratio, api.Fault) {
	f, g, fault := fractionsOf(a, b)
	if fault != api.OK {
		return api.Ratio{}, fault
	}
	return ratioOf(f.Plus(g))
}

// Product returns a * b (V5).
func Product(a, b api.Ratio) (api.Ratio, api.Fault) {
	f, g, fault := fractionsOf(a, b)
	if fault != api.OK {
		return api.Ratio{}, fault
	}
	return ratioOf(f.Times(g))
}

// Inverse returns 1 / a (V5).
func Inverse(a api.Ratio) (api.Ratio, api.Fault) {
	f, fault := fractionOf(a)
	if fault != api.OK {
		return api.Ratio{}, fault
	}
	if f.Num.Sign() == 0 {
		return api.Ratio{}, api.ErrZero
	}
	return ratioOf(f.Inverse())
}

// Order returns -1, 0 or 1 as a is less than b, equal to it, or greater (V5).
func Order(a, b api.Ratio) (int, api.Fault) {
	f, g, fault := fractionsOf(a, b)
	if fault != api.OK {
		return 0, fault
	}
	return f.Compare(g), api.OK
}

// Exact returns a Number as a ratio (V5).
func Exact(v api.Value) (api.Ratio, api.Fault) {
	if v.Kind != api.Number || Check(v) != api.OK {
		return api.Ratio{}, api.ErrType
	}
	return RatioOf(v.N, unit)
}

// maxPlaces is the greatest number of digits behind the full stop for Rounded and Decimal.
const maxPlaces = 20

// Rounded returns the nearest multiple of 10 to the power of -places (V5).
func Rounded(r api.Ratio, places int) (api.Ratio, api.Fault) {
	rounded, _, fault := roundedTo(r, places)
	return rounded, fault
}

// roundedTo also returns how often the result has 10 to the power of -places.
func roundedTo(r api.Ratio, places int) (api.Ratio, whole.Int, api.Fault) {
	f, fault := fractionOf(r)
	if fault != api.OK {
		return api.Ratio{}, whole.Int{}, fault
	}
	if places < 0 || places > maxPlaces {
		return api.Ratio{}, whole.Int{}, api.ErrRange
	}
	power := whole.Power(places)
	times := whole.Over(f.Num.Times(power), f.Den).Nearest()
	rounded, fault := ratioOf(whole.Over(times, power))
	if fault != api.OK {
		return api.Ratio{}, whole.Int{}, fault
	}
	return rounded, times, api.OK
}

// Decimal returns the text of the rounded ratio (V5).
func Decimal(r api.Ratio, places int) (string, api.Fault) {
	_, times, fault := roundedTo(r, places)
	if fault != api.OK {
		return "", fault
	}
	digits := times.Size().Text()
	digits = strings.Repeat("0", max(0, places+1-len(digits))) + digits
	sign, point := "", ""
	if times.Sign() < 0 {
		sign = "-"
	}
	if places > 0 {
		point = "."
	}
	split := len(digits) - places
	return sign + digits[:split] + point + digits[split:], api.OK
}
