package whole

import (
	"math/big"
	"math/rand"
	"slices"
	"strings"
	"testing"
)

// samples are numbers of all sizes: small ones, those around powers of 2, with long rows of ones and zeros, and random ones.
func samples(r *rand.Rand) []*big.Int {
	var out []*big.Int
	for _, n := range []int64{0, 1, 2, 3, 9, 10, 1<<63 - 1} {
		out = append(out, big.NewInt(n))
	}
	for _, bits := range []uint{31, 32, 63, 64, 65, 127, 128, 129, 192, 256, 700} {
		power := new(big.Int).Lsh(big.NewInt(1), bits)
		out = append(out, power, new(big.Int).Sub(power, big.NewInt(1)), new(big.Int).Add(power, big.NewInt(1)))
		out = append(out, new(big.Int).Rand(r, power), new(big.Int).Sub(power, new(big.Int).Lsh(big.NewInt(1), bits/2)))
	}
	for _, n := range slices.Clone(out) {
		out = append(out, new(big.Int).Neg(n))
	}
	return out
}

func ofBig(t *testing.T, n *big.Int) Int {
	out, ok := Read(n.String())
	if !ok {
		t.Fatalf("Read(%s)", n)
	}
	return out
}

func same(t *testing.T, what string, got Int, want *big.Int) {
	t.Helper()
	if got.Text() != want.String() {
		t.Fatalf("%s: got %s, want %s", what, got.Text(), want)
	}
}

func TestPairs(t *testing.T) {
	r := rand.New(rand.NewSource(1))
	l := samples(r)
	for _, x := range l {
		for _, y := range l {
			a, b := ofBig(t, x), ofBig(t, y)
			same(t, "Plus", a.Plus(b), new(big.Int).Add(x, y))
			same(t, "Less", a.Less(b), new(big.Int).Sub(x, y))
			same(t, "Times", a.Times(b), new(big.Int).Mul(x, y))
			same(t, "Common", Common(a, b), new(big.Int).GCD(nil, nil, new(big.Int).Abs(x), new(big.Int).Abs(y)))
			if a.Bits() != x.BitLen() {
				t.Fatal("Bits", x)
			}
			if a.Compare(b) != x.Cmp(y) || a.Equal(b) != (x.Cmp(y) == 0) {
				t.Fatal("Compare", x, y)
			}
			if y.Sign() != 0 {
				quotient, rest := a.Divide(b)
				wantQuotient, wantRest := new(big.Int).QuoRem(x, y, new(big.Int))
				same(t, "quotient", quotient, wantQuotient)
				same(t, "rest", rest, wantRest)
			}
			same(t, "a is left as it was", a, x)
			same(t, "b is left as it was", b, y)
		}
	}
}

// TestDivideBack divides products, with rests next to 0 and next to the divisor: there the guesses of the quotient are worst.
func TestDivideBack(t *testing.T) {
	r := rand.New(rand.NewSource(2))
	l := samples(r)
	for _, x := range l {
		for _, y := range l {
			if y.Sign() == 0 {
				continue
			}
			for _, more := range []int64{-1, 0, 1} {
				n := new(big.Int).Add(new(big.Int).Mul(x, y), big.NewInt(more))
				quotient, rest := ofBig(t, n).Divide(ofBig(t, y))
				wantQuotient, wantRest := new(big.Int).QuoRem(n, y, new(big.Int))
				same(t, "quotient", quotient, wantQuotient)
				same(t, "rest", rest, wantRest)
			}
		}
	}
}

func TestCommonOfGreatNumbers(t *testing.T) {
	r := rand.New(rand.NewSource(3))
	for range 300 {
		limit := new(big.Int).Lsh(big.NewInt(1), uint(1+r.Intn(4000)))
		x, y, z := new(big.Int).Rand(r, limit), new(big.Int).Rand(r, limit), new(big.Int).Rand(r, limit)
		x.Mul(x, z)
		y.Mul(y, z)
		same(t, "Common", Common(ofBig(t, x), ofBig(t, y)), new(big.Int).GCD(nil, nil, x, y))
	}
	// Neighbours among the numbers of Fibonacci make the most steps.
	x, y := big.NewInt(1), big.NewInt(1)
	for range 5000 {
		x, y = y, x.Add(x, y)
	}
	same(t, "Common of Fibonacci", Common(ofBig(t, x), ofBig(t, y)), big.NewInt(1))
}

func TestTexts(t *testing.T) {
	for _, s := range []string{"0", "1", "-1", "10", "9999999999999999999", "10000000000000000000", "-10000000000000000000", "18446744073709551616", "1" + strings.Repeat("0", 3000), strings.Repeat("9", 3000)} {
		if n, ok := Read(s); !ok || n.Text() != s {
			t.Error("Read of", s)
		}
	}
	for _, s := range []string{"", "-", "-0", "00", "01", "-01", "+1", " 1", "1 ", "1.0", "--1", "1-", "a", "1/", "1:", strings.Repeat("1", 40) + "x" + strings.Repeat("1", 40)} {
		if n, ok := Read(s); ok || n.Sign() != 0 {
			t.Error("Read of", s)
		}
	}
}

func TestSmall(t *testing.T) {
	for _, n := range []int{0, 1, -1, 42, -1 << 63, 1<<63 - 1} {
		same(t, "Of", Of(n), big.NewInt(int64(n)))
	}
	for _, exponent := range []int{0, 1, 12, 18, 19, 20, 37, 38, 39, 100, 4100} {
		same(t, "Power", Power(exponent), new(big.Int).Exp(big.NewInt(10), big.NewInt(int64(exponent)), nil))
	}
	if Of(-3).Sign() != -1 || Of(0).Sign() != 0 || Of(3).Sign() != 1 || Of(0).Minus().Sign() != 0 {
		t.Error("Sign")
	}
	same(t, "Size", Of(-3).Size(), big.NewInt(3))
}

func TestFractions(t *testing.T) {
	third := Over(Of(2), Of(-6))
	if third.Num.Text() != "-1" || third.Den.Text() != "3" {
		t.Error("Over", third)
	}
	if none := Over(Of(0), Of(-6)); none.Num.Text() != "0" || none.Den.Text() != "1" {
		t.Error("Over of 0", none)
	}
	if back := third.Inverse(); back.Num.Text() != "-3" || back.Den.Text() != "1" {
		t.Error("Inverse", back)
	}
	if third.Compare(Over(Of(-1), Of(2))) != 1 || third.Compare(third) != 0 || third.Compare(Over(Of(0), Of(1))) != -1 {
		t.Error("Compare")
	}
	for _, x := range []struct{ num, den, want int }{{5, 2, 3}, {-5, 2, -3}, {7, 3, 2}, {-7, 3, -2}, {8, 3, 3}, {1, 3, 0}, {-1, 2, -1}, {0, 1, 0}, {6, 2, 3}} {
		if n := Over(Of(x.num), Of(x.den)).Nearest(); !n.Equal(Of(x.want)) {
			t.Error("Nearest", x, n.Text())
		}
	}
}

// sameFraction holds that a fraction is the number in lowest terms.
func sameFraction(t *testing.T, what string, got Fraction, want *big.Rat) {
	t.Helper()
	same(t, what+", Num", got.Num, want.Num())
	same(t, what+", Den", got.Den, want.Denom())
}

func TestFractionsByBig(t *testing.T) {
	r := rand.New(rand.NewSource(4))
	// Powers of small numbers as denominators have much in common.
	pick := func() (Fraction, *big.Rat) {
		num, den := int64(r.Intn(2000)-1000), int64(1+r.Intn(1000))
		x := big.NewRat(num, den)
		for range r.Intn(60) {
			x.Mul(x, big.NewRat(int64(1+r.Intn(12)), int64(1+r.Intn(12))))
		}
		return Over(ofBig(t, x.Num()), ofBig(t, x.Denom())), x
	}
	for range 4000 {
		a, x := pick()
		b, y := pick()
		sameFraction(t, "Plus", a.Plus(b), new(big.Rat).Add(x, y))
		sameFraction(t, "Times", a.Times(b), new(big.Rat).Mul(x, y))
		sameFraction(t, "Minus", a.Minus(), new(big.Rat).Neg(x))
		sameFraction(t, "a and its opposite", a.Plus(a.Minus()), new(big.Rat))
		if x.Sign() != 0 {
			sameFraction(t, "Inverse", a.Inverse(), new(big.Rat).Inv(x))
			sameFraction(t, "a and its inverse", a.Times(a.Inverse()), big.NewRat(1, 1))
		}
		if a.Compare(b) != x.Cmp(y) {
			t.Fatal("Compare", x, y)
		}
	}
}

func TestTotals(t *testing.T) {
	r := rand.New(rand.NewSource(6))
	sum, list := new(big.Rat), []Fraction{}
	for range 40 {
		sameFraction(t, "Total", Total(list), sum)
		x := big.NewRat(r.Int63()-r.Int63(), 1+r.Int63n(1000000))
		sum.Add(sum, x)
		list = append(list, Over(ofBig(t, x.Num()), ofBig(t, x.Denom())))
	}
}

// nearest returns the whole number nearest to num / den by math/big, of two the one further from 0.
func nearest(num, den *big.Int) *big.Int {
	size := new(big.Int).Abs(num)
	size.Add(size.Lsh(size, 1), den)
	size.Quo(size, new(big.Int).Lsh(den, 1))
	if num.Sign() < 0 {
		size.Neg(size)
	}
	return size
}

func TestScales(t *testing.T) {
	r := rand.New(rand.NewSource(5))
	l := samples(r)
	for _, num := range l {
		for _, den := range l {
			if num.Sign() < 0 || den.Sign() <= 0 {
				continue
			}
			// One scale multiplies small and great numbers in turn.
			scale := ScaleOf(ofBig(t, num), ofBig(t, den))
			for range 12 {
				n := l[r.Intn(len(l))]
				times := new(big.Int).Mul(n, num)
				same(t, "Nearest", Nearest(ofBig(t, times), ofBig(t, den)), nearest(times, den))
				if n.Sign() >= 0 {
					same(t, "Nearest of a scale", scale.Nearest(ofBig(t, n)), nearest(times, den))
				}
			}
		}
	}
	for _, x := range []struct{ n, num, den, want int }{{1, 1, 2, 1}, {3, 1, 2, 2}, {5, 1, 4, 1}, {6, 1, 4, 2}, {7, 1, 4, 2}, {0, 7, 3, 0}, {7, 0, 3, 0}, {7, 3, 7, 3}} {
		same(t, "Nearest of a scale", ScaleOf(Of(x.num), Of(x.den)).Nearest(Of(x.n)), big.NewInt(int64(x.want)))
	}
}

func TestSums(t *testing.T) {
	r := rand.New(rand.NewSource(6))
	l := samples(r)
	for range 200 {
		var sum Sum
		want := new(big.Int)
		for range 30 {
			n := new(big.Int).Abs(l[r.Intn(len(l))])
			before, told := sum.Int(), want.String()
			sum.Add(ofBig(t, n))
			want.Add(want, n)
			same(t, "Sum", sum.Int(), want)
			if before.Text() != told {
				t.Fatal("a sum changes what it has told", told, n)
			}
		}
	}
}
