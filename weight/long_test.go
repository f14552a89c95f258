package weight

import (
	"fmt"
	"math/big"
	"math/rand"
	"strings"
	"testing"

	"canvass/api"
	"canvass/whole"
)

// primesTo returns people with the weights 1 / p for different primes p, so that the denominator of their sum has so many digits.
func primesTo(t *testing.T, digits int) []api.Person {
	t.Helper()
	l := primePeople(digits/12 - 1)
	rest := digits - 12*len(l)
	for i, size := range []int{rest / 2, rest - rest/2} {
		limit := 1
		for range size {
			limit *= 10
		}
		l = append(l, api.Person{Weight: ratioBy(big.NewRat(1, int64(primesFrom(limit, 2)[i])))})
	}
	if den := sumAgain(weightsAgain(l)).Denom().String(); len(den) != digits {
		t.Fatal("digits", digits, len(den))
	}
	return l
}

// TestLongResults holds ErrLarge as in V5 a bit within MaxDigits and a bit beyond, for all functions where that can come about.
func TestLongResults(t *testing.T) {
	faults := map[string]bool{}
	hold := func(what string, want, got api.Fault, results ...any) {
		t.Helper()
		refuses(t, what, want, append(results, got)...)
		name, _, _ := strings.Cut(what, " ")
		faults[fmt.Sprint(name, got)] = true
	}
	for _, digits := range []int{1977, 1988, 1993, 1999, 2000, 2001, 2010, 2030} {
		l := primesTo(t, digits)
		answered, values := make([]bool, len(l)), make([]int, len(l))
		for i := range l {
			l[i].Cells, values[i] = []int{0}, 7
		}
		answered[3] = true
		m := marginsIn(t, "m 5")
		what := func(name string) string { return fmt.Sprint(name, " of ", digits, " digits") }

		sums, fault := Sums(m, l)
		hold(what("Sums"), fits(sumAgain(weightsAgain(l))), fault, sums)
		list, fault := Respond(l, answered)
		_, want := respondAgain(l, answered)
		hold(what("Respond"), want, fault, list)
		list, fault = Post(m, l, 0)
		_, want = postAgain(m, l, 0)
		hold(what("Post"), want, fault, list)
		raked, fault := Rake(m, l, api.Raking{Distance: parts("0")})
		_, want = rakeAgain(t, m, l, api.Raking{Distance: parts("0")})
		hold(what("Rake"), want, fault, raked)
		raked, fault = Rake(m, l, api.Raking{Rounds: 1, Distance: parts("0")})
		refuses(t, what("Rake behind a round"), api.OK, raked, fault)
		list, count, fault := Trim(l, parts("1"))
		_, _, want = trimAgain(l, parts("1"))
		hold(what("Trim"), want, fault, list, count)
		list, count, fault = Trim(l, parts("999"))
		refuses(t, what("Trim that leaves all weights"), api.OK, list, count, fault)
		spread, fault := SpreadOf(l[:len(l)/2])
		_, want = spreadAgain(l[:len(l)/2])
		hold(what("SpreadOf"), want, fault, spread)
		total, fault := Total(l, values)
		hold(what("Total"), fits(totalAgain(weightsAgain(l), values)), fault, total)
		values[0] = 8
		mean, fault := Mean(l, values)
		hold(what("Mean"), fits(meanAgain(weightsAgain(l), values)), fault, mean)
	}
	for _, name := range []string{"Sums", "Respond", "Post", "Rake", "Trim", "SpreadOf", "Total", "Mean"} {
		for _, fault := range []api.Fault{api.OK, api.ErrLarge} {
			if what := fmt.Sprint(name, fault); !faults[what] {
				t.Error("this fault does not come about", what)
			}
		}
	}
}

// TestLongVariances does likewise for the variances.
func TestLongVariances(t *testing.T) {
	r := rand.New(rand.NewSource(1))
	faults := map[string]int{}
	for step := range 32 {
		count := 8 + step
		if step >= 16 {
			count = 60 + step
		}
		l, values := primePeople(count), make([]int, count)
		layers := 1 + r.Intn(3)
		for i := range l {
			l[i].Layer, l[i].Part, values[i] = i%layers, r.Intn(2), 1+r.Intn(3)
		}
		for i, x := range []*big.Rat{varianceAgain(l, values, totalAgain), varianceAgain(l, values, meanAgain)} {
			got, fault := four[i+2].call(l, values)
			refuses(t, show(four[i+2].name, count, layers), fits(x), got, fault)
			if fault == api.OK {
				is(t, show(four[i+2].name, count, layers), show(got), show(ratioBy(x)))
			}
			faults[show(four[i+2].name, fault)]++
		}
	}
	if len(faults) != 4 {
		t.Error("a fault does not come about", faults)
	}
}

// TestManyLongReplicates holds that the variance of the mean ends also where its sum would have millions of digits.
func TestManyLongReplicates(t *testing.T) {
	l, values := primePeople(api.MaxPeople), make([]int, api.MaxPeople)
	for i := range l {
		l[i].Part, values[i] = i%api.MaxReplicates, i
	}
	got, fault := MeanVariance(l, values)
	refuses(t, "different values", api.ErrLarge, got, fault)
	for i := range values {
		values[i] = -5
	}
	got, fault = MeanVariance(l, values)
	is(t, "equal values", show(got, fault), "0 0")
}

// TestSimplest holds simplest against a search through all denominators.
func TestSimplest(t *testing.T) {
	r := rand.New(rand.NewSource(1))
	for range 3000 {
		one := 1 + r.Intn(300)
		low := r.Intn(3 * one)
		high := low + r.Intn(1+r.Intn(40))
		num, den := simplest(whole.Of(low), whole.Of(high), whole.Of(one))
		wantNum, wantDen := 0, 1
		for ; ; wantDen++ {
			wantNum = (low*wantDen + one - 1) / one
			if wantNum*one <= high*wantDen {
				break
			}
		}
		is(t, show("simplest", low, high, one), show(num.Text(), den.Text()), show(wantNum, wantDen))
	}
}

// TestLongSimplest holds that simplest finds ratios with up to MaxDigits digits, and no others.
func TestLongSimplest(t *testing.T) {
	one := whole.Power(2*api.MaxDigits + 100)
	limit := new(big.Int).Exp(big.NewInt(10), big.NewInt(api.MaxDigits), nil)
	r := rand.New(rand.NewSource(1))
	for range 6 {
		x := new(big.Rat).SetFrac(new(big.Int).Rand(r, limit), new(big.Int).Rand(r, limit))
		n, _ := whole.Read(x.Num().String())
		d, _ := whole.Read(x.Denom().String())
		low, _ := n.Times(one).Divide(d)
		num, den := simplest(low, low.Plus(whole.Of(1)), one)
		is(t, "a ratio within MaxDigits", show(num.Text(), den.Text()), show(n.Text(), d.Text()))
		num, den = simplest(low.Less(whole.Of(100)), low, one)
		if !isLong(num) && !isLong(den) {
			t.Error("a ratio is found beside the one that is there", num.Text(), den.Text())
		}
	}
}

// TestBounds holds that the variance of the mean is between its bounds, and that these are near together.
func TestBounds(t *testing.T) {
	r := rand.New(rand.NewSource(1))
	lowest, highest := big.NewRat(1, 1), new(big.Rat)
	for range 3000 {
		l := randomPeople(r, 1+r.Intn(8), nil)
		values := make([]int, len(l))
		for i := range values {
			values[i] = r.Intn(9) - 4
		}
		s, one := sharesOf(fractionsOf(t, l), values, layersOf(l)), 1+r.Intn(5)
		replicates := s.replicates()
		low, high := s.bounds(replicates, whole.Of(one))
		variance := product(varianceAgain(l, values, meanAgain), number(one))
		below, above := less(variance, rat(parts(low.Text()))), less(rat(parts(high.Text())), variance)
		if below.Sign() < 0 || above.Sign() < 0 || below.Cmp(number(100*len(replicates))) > 0 || above.Cmp(number(100*len(replicates))) > 0 {
			t.Fatal("bounds", l, values, one, low.Text(), high.Text(), variance)
		}
		if len(replicates) > 0 && below.Cmp(lowest) < 0 {
			lowest = below
		}
		if above.Cmp(highest) > 0 {
			highest = above
		}
	}
	if lowest.Sign() != 0 || highest.Cmp(number(1)) < 0 {
		t.Error("chance does not go far enough", lowest, highest)
	}
}

// fractionsOf returns the weights of people.
func fractionsOf(t *testing.T, l []api.Person) []whole.Fraction {
	t.Helper()
	out, fault := weightsOf(l)
	if fault != api.OK {
		t.Fatal("people", fault)
	}
	return out
}
