package value

import (
	"math/big"
	"strings"
	"testing"

	"canvass/api"
)

func ratio(num, den string) api.Ratio { return api.Ratio{Num: num, Den: den} }

func nines(n int) string { return strings.Repeat("9", n) }

func power(n int) string { return "1" + strings.Repeat("0", n) }

var none api.Ratio

func TestCheckRatio(t *testing.T) {
	for _, x := range []struct {
		r    api.Ratio
		want api.Fault
	}{
		{ratio("0", "1"), api.OK}, {ratio("1", "1"), api.OK}, {ratio("-1", "2"), api.OK}, {ratio("7", "10"), api.OK},
		{ratio(nines(api.MaxDigits), "1"), api.OK}, {ratio("-"+nines(api.MaxDigits), "1"), api.OK}, {ratio("1", nines(api.MaxDigits)), api.OK},
		{ratio(nines(api.MaxDigits+1), "1"), api.ErrLarge}, {ratio("-"+nines(api.MaxDigits+1), "1"), api.ErrLarge}, {ratio("1", nines(api.MaxDigits+1)), api.ErrLarge},
		{ratio(strings.Repeat("x", api.MaxDigits+1), "1"), api.ErrLarge}, {ratio("x", nines(api.MaxDigits+1)), api.ErrLarge}, {ratio("1", "-"+nines(api.MaxDigits)), api.ErrLarge}, {ratio("--"+nines(api.MaxDigits-1), "1"), api.ErrForm}, {ratio("--"+nines(api.MaxDigits), "1"), api.ErrLarge},
		{none, api.ErrForm}, {ratio("", "1"), api.ErrForm}, {ratio("1", ""), api.ErrForm}, {ratio("-", "1"), api.ErrForm},
		{ratio("-0", "1"), api.ErrForm}, {ratio("00", "1"), api.ErrForm}, {ratio("01", "1"), api.ErrForm}, {ratio("-01", "1"), api.ErrForm}, {ratio("+1", "1"), api.ErrForm}, {ratio("1.5", "1"), api.ErrForm}, {ratio(" 1", "1"), api.ErrForm}, {ratio("1", "1 "), api.ErrForm}, {ratio("1a", "2"), api.ErrForm},
		{ratio("1", "0"), api.ErrForm}, {ratio("0", "0"), api.ErrForm}, {ratio("1", "-1"), api.ErrForm}, {ratio("1", "02"), api.ErrForm}, {ratio("1", "-0"), api.ErrForm},
		{ratio("2", "4"), api.ErrForm}, {ratio("-3", "9"), api.ErrForm}, {ratio("0", "2"), api.ErrForm}, {ratio("7", "7"), api.ErrForm}, {ratio(power(1999), power(1)), api.ErrForm},
	} {
		if got := CheckRatio(x.r); got != x.want {
			t.Errorf("CheckRatio(%.20s / %.20s) is %d, not %d", x.r.Num, x.r.Den, got, x.want)
		}
	}
}

func TestRatioOf(t *testing.T) {
	const least, most = -1 << 63, 1<<63 - 1
	for _, x := range []struct {
		num, den int
		want     api.Ratio
	}{
		{0, 5, ratio("0", "1")}, {0, -5, ratio("0", "1")}, {6, 4, ratio("3", "2")}, {-6, 4, ratio("-3", "2")}, {6, -4, ratio("-3", "2")}, {-6, -4, ratio("3", "2")}, {5, 1, ratio("5", "1")},
		{least, -1, ratio("9223372036854775808", "1")}, {least, least, ratio("1", "1")}, {1, least, ratio("-1", "9223372036854775808")}, {most, least, ratio("-9223372036854775807", "9223372036854775808")}, {least, 2, ratio("-4611686018427387904", "1")},
	} {
		if got, fault := RatioOf(x.num, x.den); got != x.want || fault != api.OK {
			t.Errorf("RatioOf(%d, %d) is %v, %d", x.num, x.den, got, fault)
		}
	}
	for _, num := range []int{0, 1, least} {
		if got, fault := RatioOf(num, 0); got != none || fault != api.ErrZero {
			t.Errorf("RatioOf(%d, 0) is %v, %d", num, got, fault)
		}
	}
}

// TestRatiosByBig holds the functions of two ratios against package big.
func TestRatiosByBig(t *testing.T) {
	l := []string{"0", "1", "-1", "1/2", "-1/2", "2/3", "-7/12", "5/12", "18446744073709551616/3", "1/340282366920938463463374607431768211457", nines(300) + "/" + power(299), "-" + power(40) + "/7"}
	for _, s := range l {
		for _, u := range l {
			x, _ := new(big.Rat).SetString(s)
			y, _ := new(big.Rat).SetString(u)
			a, b := ofRat(x), ofRat(y)
			if got, fault := Sum(a, b); got != ofRat(new(big.Rat).Add(x, y)) || fault != api.OK {
				t.Errorf("Sum of %s and %s is %v, %d", s, u, got, fault)
			}
			if got, fault := Product(a, b); got != ofRat(new(big.Rat).Mul(x, y)) || fault != api.OK {
				t.Errorf("Product of %s and %s is %v, %d", s, u, got, fault)
			}
			if got, fault := Order(a, b); got != x.Cmp(y) || fault != api.OK {
				t.Errorf("Order of %s and %s is %d, %d", s, u, got, fault)
			}
		}
	}
}

func ofRat(x *big.Rat) api.Ratio { return ratio(x.Num().String(), x.Denom().String()) }

func TestInverse(t *testing.T) {
	for _, x := range []struct{ a, want api.Ratio }{{ratio("2", "3"), ratio("3", "2")}, {ratio("-2", "3"), ratio("-3", "2")}, {ratio("1", "1"), ratio("1", "1")}, {ratio("-5", "1"), ratio("-1", "5")}} {
		if got, fault := Inverse(x.a); got != x.want || fault != api.OK {
			t.Errorf("Inverse(%v) is %v, %d", x.a, got, fault)
		}
	}
	if got, fault := Inverse(ratio("0", "1")); got != none || fault != api.ErrZero {
		t.Error("Inverse of 0", got, fault)
	}
}

func TestExact(t *testing.T) {
	for _, x := range []struct {
		n    int
		want api.Ratio
	}{{125000, ratio("25", "2")}, {0, ratio("0", "1")}, {-1, ratio("-1", "10000")}, {30000, ratio("3", "1")}, {api.MaxNumber, ratio("999999999999999", "10000")}} {
		if got, fault := Exact(number(x.n)); got != x.want || fault != api.OK {
			t.Errorf("Exact of %d is %v, %d", x.n, got, fault)
		}
	}
	for _, v := range []api.Value{{}, special(1), text("1"), choice(1), choices(), day(1), boolean(true), number(api.MaxNumber + 1), {Kind: api.Number, S: "x"}, {Kind: 9}} {
		if got, fault := Exact(v); got != none || fault != api.ErrType {
			t.Errorf("Exact(%v) is %v, %d", v, got, fault)
		}
	}
}

func TestRounding(t *testing.T) {
	for _, x := range []struct {
		r      api.Ratio
		places int
		want   api.Ratio
		text   string
	}{
		{ratio("2", "3"), 0, ratio("1", "1"), "1"}, {ratio("2", "3"), 2, ratio("67", "100"), "0.67"}, {ratio("-2", "3"), 3, ratio("-667", "1000"), "-0.667"},
		{ratio("1", "2"), 0, ratio("1", "1"), "1"}, {ratio("-1", "2"), 0, ratio("-1", "1"), "-1"}, {ratio("1", "3"), 0, ratio("0", "1"), "0"}, {ratio("-1", "3"), 0, ratio("0", "1"), "0"},
		{ratio("5", "2"), 0, ratio("3", "1"), "3"}, {ratio("-5", "2"), 0, ratio("-3", "1"), "-3"}, {ratio("1", "8"), 2, ratio("13", "100"), "0.13"}, {ratio("-1", "8"), 2, ratio("-13", "100"), "-0.13"}, {ratio("49", "1000"), 1, ratio("0", "1"), "0.0"}, {ratio("-49", "1000"), 1, ratio("0", "1"), "0.0"}, {ratio("1", "1000"), 2, ratio("0", "1"), "0.00"},
		{ratio("0", "1"), 0, ratio("0", "1"), "0"}, {ratio("0", "1"), 3, ratio("0", "1"), "0.000"}, {ratio("25", "2"), 1, ratio("25", "2"), "12.5"}, {ratio("25", "2"), 3, ratio("25", "2"), "12.500"}, {ratio("1000", "1"), 1, ratio("1000", "1"), "1000.0"}, {ratio("1999", "200"), 2, ratio("10", "1"), "10.00"},
		{ratio("1", "3"), 20, ratio(strings.Repeat("3", 20), power(20)), "0." + strings.Repeat("3", 20)}, {ratio("1", power(20)), 20, ratio("1", power(20)), "0." + strings.Repeat("0", 19) + "1"},
	} {
		if got, fault := Rounded(x.r, x.places); got != x.want || fault != api.OK {
			t.Errorf("Rounded(%v, %d) is %v, %d", x.r, x.places, got, fault)
		}
		if got, fault := Decimal(x.r, x.places); got != x.text || fault != api.OK {
			t.Errorf("Decimal(%v, %d) is %q, %d", x.r, x.places, got, fault)
		}
	}
}

// TestRatioFaults has the errors of all functions of ratios, in their order.
func TestRatioFaults(t *testing.T) {
	bad, large, half, zero := ratio("2", "4"), ratio(nines(2001), "1"), ratio("1", "2"), ratio("0", "1")
	for _, x := range []struct {
		a, b api.Ratio
		want api.Fault
	}{{bad, half, api.ErrForm}, {half, bad, api.ErrForm}, {large, half, api.ErrLarge}, {half, large, api.ErrLarge}, {bad, large, api.ErrForm}, {large, bad, api.ErrLarge}} {
		if got, fault := Sum(x.a, x.b); got != none || fault != x.want {
			t.Error("Sum", fault, x.want)
		}
		if got, fault := Product(x.a, x.b); got != none || fault != x.want {
			t.Error("Product", fault, x.want)
		}
		if got, fault := Order(x.a, x.b); got != 0 || fault != x.want {
			t.Error("Order", fault, x.want)
		}
	}
	for _, x := range []struct {
		r      api.Ratio
		places int
		want   api.Fault
	}{{bad, 0, api.ErrForm}, {bad, 21, api.ErrForm}, {large, -1, api.ErrLarge}, {half, -1, api.ErrRange}, {half, 21, api.ErrRange}, {half, 1<<63 - 1, api.ErrRange}, {half, -1 << 63, api.ErrRange}, {ratio(nines(2000), "1"), 21, api.ErrRange}} {
		if got, fault := Rounded(x.r, x.places); got != none || fault != x.want {
			t.Error("Rounded", x.places, fault, x.want)
		}
		if got, fault := Decimal(x.r, x.places); got != "" || fault != x.want {
			t.Error("Decimal", x.places, fault, x.want)
		}
	}
	if got, fault := Inverse(bad); got != none || fault != api.ErrForm {
		t.Error("Inverse", fault)
	}
	if got, fault := Inverse(large); got != none || fault != api.ErrLarge {
		t.Error("Inverse", fault)
	}
	if got, fault := Inverse(ratio("0", "2")); got != none || fault != api.ErrForm {
		t.Error("Inverse of an unsound 0", fault)
	}
	if got, fault := Product(zero, large); got != none || fault != api.ErrLarge {
		t.Error("Product of 0", fault)
	}
}

// TestMaxDigits has results around MaxDigits.
func TestMaxDigits(t *testing.T) {
	whole := ratio(nines(api.MaxDigits), "1")
	if got, fault := Sum(whole, ratio("1", "1")); got != none || fault != api.ErrLarge {
		t.Error("Sum above the limit", fault)
	}
	if got, fault := Sum(ratio("-"+nines(api.MaxDigits), "1"), ratio("-1", "1")); got != none || fault != api.ErrLarge {
		t.Error("Sum below the limit", fault)
	}
	if got, fault := Sum(ratio("1", power(1999)), ratio("1", nines(1999))); got != none || fault != api.ErrLarge {
		t.Error("Sum with a large denominator", fault)
	}
	if got, fault := Sum(ratio(nines(1999), "1"), ratio("1", "1")); got != ratio(power(1999), "1") || fault != api.OK {
		t.Error("Sum at the limit", fault)
	}
	if got, fault := Product(whole, ratio("2", "1")); got != none || fault != api.ErrLarge {
		t.Error("Product above the limit", fault)
	}
	if got, fault := Product(ratio("1", nines(api.MaxDigits)), ratio("1", "2")); got != none || fault != api.ErrLarge {
		t.Error("Product with a large denominator", fault)
	}
	// What is large on the way, and not in the end, is no fault.
	if got, fault := Product(ratio(power(1999), "3"), ratio("7", power(1999))); got != ratio("7", "3") || fault != api.OK {
		t.Error("Product that cancels", got, fault)
	}
	if got, fault := Order(whole, ratio("1", nines(api.MaxDigits))); got != 1 || fault != api.OK {
		t.Error("Order", got, fault)
	}
	if got, fault := Inverse(ratio("-"+nines(api.MaxDigits), "2")); got != ratio("-2", nines(api.MaxDigits)) || fault != api.OK {
		t.Error("Inverse", got, fault)
	}
	if got, fault := Rounded(ratio(power(1999), "7"), 20); got != none || fault != api.ErrLarge {
		t.Error("Rounded", fault)
	}
	if got, fault := Decimal(ratio(power(1999), "7"), 20); got != "" || fault != api.ErrLarge {
		t.Error("Decimal", fault)
	}
	if got, fault := Decimal(ratio(power(1999), "1"), 2); got != power(1999)+".00" || fault != api.OK {
		t.Error("Decimal of a whole number", fault)
	}
	if got, fault := Rounded(ratio("1"+nines(1999), "2"), 0); got != ratio(power(1999), "1") || fault != api.OK {
		t.Error("Rounded up", fault)
	}
}
