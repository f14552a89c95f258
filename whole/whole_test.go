package whole

import (
	"math/big"
	"math/rand"
	"slices"
	"strings"
	"testing"
)

// samples are numbers of all sizes: small ones, those around powers of 2, with long rows of ones and zeros, and random ones.
func samples(r *rand.Rand) []*big.Int {
	var out []*big.Int
	for _, n := range []int64{0, 1, 2, 3, 9, 10, 1<<63 - 1} {
		out = append(out, big.NewInt(n))
	}
	for _, bits := range []uint{31, 32, 63, 64, 65, 127, 128, 129, 192, 256, 700} {
		power := new(big.Int).Lsh(big.NewInt(1), bits)
		out = append(out, power, new(big.Int).Sub(power, big.NewInt(1)), new(big.Int).Add(power, big.NewInt(1)))
		out = append(out, new(big.Int).Rand(r, power), new(big.Int).Sub(power, new(big.Int).Lsh(big.NewInt(1), bits/2)))
	}
	for _, n := range slices.Clone(out) {
		out = append(out, new(big.Int).Neg(n))
	}
	return out
}

func ofBig(t *testing.T, n *big.Int) Int {
	out, ok := Read(n.String())
	if !ok {
		t.Fatalf("Read(%s)", n)
	}
	return out
}

func same(t *testing.T, what string, got Int, want *big.Int) {
	t.Helper()
	if got.Text() != want.String() {
		t.Fatalf("%s: got %s, want %s", what, got.Text(), want)
	}
}

func TestPairs(t *testing.T) {
	r := rand.New(rand.NewSource(1))
	l := samples(r)
	for _, x := range l {
		for _, y := range l {
			a, b := ofBig(t, x), ofBig(t, y)
			same(t, "Plus", a.Plus(b), new(big.Int).Add(x, y))
			same(t, "Less", a.Less(b), new(big.Int).Sub(x, y))
			same(t, "Times", a.Times(b), new(big.Int).Mul(x, y))
			same(t, "Common", Common(a, b), new(big.Int).GCD(nil, nil, new(big.Int).Abs(x), new(big.Int).Abs(y)))
			if a.Compare(b) != x.Cmp(y) || a.Equal(b) != (x.Cmp(y) == 0) {
				t.Fatal("Compare", x, y)
			}
			if y.Sign() != 0 {
				quotient, rest := a.Divide(b)
				wantQuotient, wantRest := new(big.Int).QuoRem(x, y, new(big.Int))
				same(t, "quotient", quotient, wantQuotient)
				same(t, "rest", rest, wantRest)
			}
			same(t, "a is left as it was", a, x)
			same(t, "b is left as it was", b, y)
		}
	}
}

// TestDivideBack divides products, with rests next to 0 and next to the divisor: there the guesses of the quotient are worst.
func TestDivideBack(t *testing.T) {
	r := rand.New(rand.NewSource(2))
	l := samples(r)
	for _, x := range l {
		for _, y := range l {
			if y.Sign() == 0 {
				continue
			}
			for _, more := range []int64{-1, 0, 1} {
				n := new(big.Int).Add(new(big.Int).Mul(x, y), big.NewInt(more))
				quotient, rest := ofBig(t, n).Divide(ofBig(t, y))
				wantQuotient, wantRest := new(big.Int).QuoRem(n, y, new(big.Int))
				same(t, "quotient", quotient, wantQuotient)
				same(t, "rest", rest, wantRest)
			}
		}
	}
}

func TestCommonOfGreatNumbers(t *testing.T) {
	r := rand.New(rand.NewSource(3))
	for range 300 {
		limit := new(big.Int).Lsh(big.NewInt(1), uint(1+r.Intn(4000)))
		x, y, z := new(big.Int).Rand(r, limit), new(big.Int).Rand(r, limit), new(big.Int).Rand(r, limit)
		x.Mul(x, z)
		y.Mul(y, z)
		same(t, "Common", Common(ofBig(t, x), ofBig(t, y)), new(big.Int).GCD(nil, nil, x, y))
	}
	// Neighbours among the numbers of Fibonacci make the most steps.
	x, y := big.NewInt(1), big.NewInt(1)
	for range 5000 {
		x, y = y, x.Add(x, y)
	}
	same(t, "Common of Fibonacci", Common(ofBig(t, x), ofBig(t, y)), big.NewInt(1))
}

func TestTexts(t *testing.T) {
	for _, s := range []string{"0", "1", "-1", "10", "9999999999999999999", "10000000000000000000", "-10000000000000000000", "18446744073709551616", "1" + strings.Repeat("0", 3000), strings.Repeat("9", 3000)} {
		if n, ok := Read(s); !ok || n.Text() != s {
			t.Error("Read of", s)
		}
	}
	for _, s := range []string{"", "-", "-0", "00", "01", "-01", "+1", " 1", "1 ", "1.0", "--1", "1-", "a", "1/", "1:", strings.Repeat("1", 40) + "x" + strings.Repeat("1", 40)} {
		if n, ok := Read(s); ok || n.Sign() != 0 {
			t.Error("Read of", s)
		}
	}
}

func TestSmall(t *testing.T) {
	for _, n := range []int{0, 1, -1, 42, -1 << 63, 1<<63 - 1} {
		same(t, "Of", Of(n), big.NewInt(int64(n)))
	}
	same(t, "Power", Power(0), big.NewInt(1))
	same(t, "Power", Power(20), new(big.Int).Exp(big.NewInt(10), big.NewInt(20), nil))
	if Of(-3).Sign() != -1 || Of(0).Sign() != 0 || Of(3).Sign() != 1 || Of(0).Minus().Sign() != 0 {
		t.Error("Sign")
	}
	same(t, "Size", Of(-3).Size(), big.NewInt(3))
}

func TestFractions(t *testing.T) {
	third := Over(Of(2), Of(-6))
	if third.Num.Text() != "-1" || third.Den.Text() != "3" {
		t.Error("Over", third)
	}
	if none := Over(Of(0), Of(-6)); none.Num.Text() != "0" || none.Den.Text() != "1" {
		t.Error("Over of 0", none)
	}
	if back := third.Inverse(); back.Num.Text() != "-3" || back.Den.Text() != "1" {
		t.Error("Inverse", back)
	}
	if third.Compare(Over(Of(-1), Of(2))) != 1 || third.Compare(third) != 0 || third.Compare(Over(Of(0), Of(1))) != -1 {
		t.Error("Compare")
	}
	for _, x := range []struct{ num, den, want int }{{5, 2, 3}, {-5, 2, -3}, {7, 3, 2}, {-7, 3, -2}, {8, 3, 3}, {1, 3, 0}, {-1, 2, -1}, {0, 1, 0}, {6, 2, 3}} {
		if n := Over(Of(x.num), Of(x.den)).Nearest(); !n.Equal(Of(x.want)) {
			t.Error("Nearest", x, n.Text())
		}
	}
}

func TestFractionsByBig(t *testing.T) {
	r := rand.New(rand.NewSource(4))
	pick := func() (Fraction, *big.Rat) {
		num, den := r.Intn(2000)-1000, 1+r.Intn(1000)
		return Over(Of(num), Of(den)), big.NewRat(int64(num), int64(den))
	}
	for range 2000 {
		a, x := pick()
		b, y := pick()
		for _, c := range []struct {
			got  Fraction
			want *big.Rat
		}{{a.Plus(b), new(big.Rat).Add(x, y)}, {a.Times(b), new(big.Rat).Mul(x, y)}} {
			same(t, "Num", c.got.Num, c.want.Num())
			same(t, "Den", c.got.Den, c.want.Denom())
		}
		if a.Compare(b) != x.Cmp(y) {
			t.Fatal("Compare", x, y)
		}
	}
}
