package weight

import (
	"math/big"
	"math/rand"
	"slices"
	"testing"

	"canvass/api"
	"canvass/value"
)

// The functions of this file make the results of the package a second time, by the words of the chapter, with math/big.

func sumAgain(l []*big.Rat) *big.Rat {
	out := new(big.Rat)
	for _, x := range l {
		out.Add(out, x)
	}
	return out
}

func product(l ...*big.Rat) *big.Rat {
	out := number(1)
	for _, x := range l {
		out.Mul(out, x)
	}
	return out
}

func quotient(x, y *big.Rat) *big.Rat { return new(big.Rat).Quo(x, y) }

func less(x, y *big.Rat) *big.Rat { return new(big.Rat).Sub(x, y) }

func weightsAgain(l []api.Person) []*big.Rat {
	var out []*big.Rat
	for _, p := range l {
		out = append(out, rat(p.Weight))
	}
	return out
}

// sumOf is the sum of the weights of those who are meant.
func sumOf(weights []*big.Rat, is func(i int) bool) *big.Rat {
	out := new(big.Rat)
	for i, w := range weights {
		if is(i) {
			out.Add(out, w)
		}
	}
	return out
}

// ratiosBy writes numbers, or none if one is not within MaxDigits, which is a fault.
func ratiosBy(l []*big.Rat) ([]api.Ratio, api.Fault) {
	if fault := fits(l...); fault != api.OK {
		return nil, fault
	}
	var out []api.Ratio
	for _, x := range l {
		out = append(out, ratioBy(x))
	}
	return out, api.OK
}

func sumsAgain(m []api.Margin, l []api.Person, weights []*big.Rat) [][]*big.Rat {
	var out [][]*big.Rat
	for i := range m {
		var sums []*big.Rat
		for cell := range m[i].Totals {
			sums = append(sums, sumOf(weights, func(j int) bool { return l[j].Cells[i] == cell }))
		}
		out = append(out, sums)
	}
	return out
}

func respondAgain(l []api.Person, answered []bool) ([]api.Ratio, api.Fault) {
	weights, factors := weightsAgain(l), map[int]*big.Rat{}
	for _, p := range l {
		if factors[p.Class] == nil {
			all := sumOf(weights, func(j int) bool { return l[j].Class == p.Class })
			heard := sumOf(weights, func(j int) bool { return l[j].Class == p.Class && answered[j] })
			if heard.Sign() == 0 {
				return nil, api.ErrZero
			}
			factors[p.Class] = quotient(all, heard)
		}
	}
	var out []*big.Rat
	for i, p := range l {
		if answered[i] {
			out = append(out, product(weights[i], factors[p.Class]))
		} else {
			out = append(out, new(big.Rat))
		}
	}
	return ratiosBy(out)
}

// emptyAgain reports whether nobody is in a cell of one of some margins that has a total other than 0.
func emptyAgain(m []api.Margin, l []api.Person, margins ...int) bool {
	for _, i := range margins {
		for cell, total := range m[i].Totals {
			if rat(total).Sign() != 0 && !slices.ContainsFunc(l, func(p api.Person) bool { return p.Cells[i] == cell }) {
				return true
			}
		}
	}
	return false
}

func postAgain(m []api.Margin, l []api.Person, margin int) ([]api.Ratio, api.Fault) {
	if emptyAgain(m, l, margin) {
		return nil, api.ErrZero
	}
	weights := weightsAgain(l)
	sums := sumsAgain(m, l, weights)[margin]
	var out []*big.Rat
	for i, p := range l {
		cell := p.Cells[margin]
		out = append(out, quotient(product(weights[i], rat(m[margin].Totals[cell])), sums[cell]))
	}
	return ratiosBy(out)
}

func distanceAgain(m []api.Margin, l []api.Person, weights []*big.Rat) *big.Rat {
	out := new(big.Rat)
	for i, sums := range sumsAgain(m, l, weights) {
		for cell, sum := range sums {
			if difference := less(sum, rat(m[i].Totals[cell])); difference.Abs(difference).Cmp(out) > 0 {
				out = difference
			}
		}
	}
	return out
}

func rakeAgain(t *testing.T, m []api.Margin, l []api.Person, r api.Raking) (api.Raked, api.Fault) {
	for i := range m {
		if emptyAgain(m, l, i) {
			return api.Raked{}, api.ErrZero
		}
	}
	weights, rounds := weightsAgain(l), 0
	distance := distanceAgain(m, l, weights)
	for rounds < r.Rounds && distance.Cmp(rat(r.Distance)) > 0 {
		for i := range m {
			sums := sumsAgain(m, l, weights)[i]
			for j, p := range l {
				if sum := sums[p.Cells[i]]; sum.Sign() != 0 {
					exact := quotient(product(weights[j], rat(m[i].Totals[p.Cells[i]])), sum)
					rounded, fault := value.Rounded(ratioBy(exact), r.Places)
					refuses(t, "Rounded", api.OK, rounded, fault)
					weights[j] = rat(rounded)
				}
			}
		}
		rounds++
		distance = distanceAgain(m, l, weights)
	}
	list, fault := ratiosBy(append(weights, distance))
	if fault != api.OK {
		return api.Raked{}, fault
	}
	return api.Raked{Weights: list[:len(l)], Rounds: rounds, Distance: ratioBy(distance), Done: distance.Cmp(rat(r.Distance)) <= 0}, api.OK
}

func trimAgain(l []api.Person, most api.Ratio) ([]api.Ratio, int, api.Fault) {
	weights := weightsAgain(l)
	if len(l) == 0 {
		return nil, 0, api.OK
	}
	sum := sumAgain(weights)
	bound := quotient(product(rat(most), sum), number(len(l)))
	held, now := make([]bool, len(l)), weights
	for {
		count, found := 0, false
		for i := range l {
			if !held[i] && now[i].Cmp(bound) > 0 {
				held[i], found = true, true
			}
			if held[i] {
				count++
			}
		}
		if !found {
			list, fault := ratiosBy(now)
			if fault != api.OK {
				return nil, 0, fault
			}
			return list, count, api.OK
		}
		factor := quotient(less(sum, product(bound, number(count))), sumOf(weights, func(i int) bool { return !held[i] }))
		now = nil
		for i := range l {
			if held[i] {
				now = append(now, bound)
			} else {
				now = append(now, product(weights[i], factor))
			}
		}
	}
}

func spreadAgain(l []api.Person) (api.Spread, api.Fault) {
	if len(l) == 0 {
		return api.Spread{}, api.ErrNone
	}
	weights := weightsAgain(l)
	squares := new(big.Rat)
	least, most := weights[0], weights[0]
	for _, w := range weights {
		squares.Add(squares, product(w, w))
		if w.Cmp(least) < 0 {
			least = w
		}
		if w.Cmp(most) > 0 {
			most = w
		}
	}
	sum := sumAgain(weights)
	effective := quotient(product(sum, sum), squares)
	list, fault := ratiosBy([]*big.Rat{sum, least, most, quotient(sum, number(len(l))), effective, quotient(number(len(l)), effective)})
	if fault != api.OK {
		return api.Spread{}, fault
	}
	return api.Spread{Sum: list[0], Least: list[1], Most: list[2], Mean: list[3], Effective: list[4], Effect: list[5]}, api.OK
}

// copyAgain is a replicate, and of how many parts its layer is.
type copyAgain struct {
	layer, part, parts int
	weights            []*big.Rat
}

func replicatesAgain(l []api.Person) []copyAgain {
	weights := weightsAgain(l)
	var out []copyAgain
	for layer := range api.MaxClasses + 1 {
		var parts []int
		for part := range api.MaxClasses + 1 {
			if slices.ContainsFunc(l, func(p api.Person) bool { return p.Layer == layer && p.Part == part }) {
				parts = append(parts, part)
			}
		}
		for _, part := range parts {
			c := copyAgain{layer: layer, part: part, parts: len(parts)}
			for i, p := range l {
				switch {
				case len(parts) == 1 || p.Layer != layer:
					c.weights = append(c.weights, weights[i])
				case p.Part == part:
					c.weights = append(c.weights, new(big.Rat))
				default:
					c.weights = append(c.weights, product(weights[i], big.NewRat(int64(len(parts)), int64(len(parts)-1))))
				}
			}
			if len(parts) > 1 {
				out = append(out, c)
			}
		}
	}
	return out
}

func totalAgain(weights []*big.Rat, values []int) *big.Rat {
	out := new(big.Rat)
	for i, w := range weights {
		out.Add(out, product(w, number(values[i])))
	}
	return out
}

func meanAgain(weights []*big.Rat, values []int) *big.Rat {
	return quotient(totalAgain(weights, values), sumAgain(weights))
}

func varianceAgain(l []api.Person, values []int, of func(weights []*big.Rat, values []int) *big.Rat) *big.Rat {
	out, here := new(big.Rat), of(weightsAgain(l), values)
	for _, c := range replicatesAgain(l) {
		difference := less(of(c.weights, values), here)
		out.Add(out, product(difference, difference, big.NewRat(int64(c.parts-1), int64(c.parts))))
	}
	return out
}

// randomMargins returns margins whose totals have the same sum.
func randomMargins(r *rand.Rand, sizes []int) []api.Margin {
	var out []api.Margin
	sum, den := int64(r.Intn(1000)), 1+r.Int63n(3)
	for i, size := range sizes {
		m := api.Margin{Name: string(rune('a' + i))}
		rest := sum
		for cell := range size {
			part := r.Int63n(rest + 1)
			if cell == size-1 {
				part = rest
			}
			m.Totals = append(m.Totals, ratioBy(big.NewRat(part, den)))
			rest -= part
		}
		out = append(out, m)
	}
	return out
}

func randomSizes(r *rand.Rand) []int {
	var out []int
	for range r.Intn(4) {
		out = append(out, 1+r.Intn(3))
	}
	return out
}

func TestWeightsByChance(t *testing.T) {
	r := rand.New(rand.NewSource(1))
	faults := map[api.Fault]int{}
	for range 3000 {
		sizes := randomSizes(r)
		m, l := randomMargins(r, sizes), randomPeople(r, r.Intn(12), sizes)
		is(t, "CheckPeople", show(CheckPeople(m, l)), "0")

		sums, fault := Sums(m, l)
		for i, want := range sumsAgain(m, l, weightsAgain(l)) {
			list, _ := ratiosBy(want)
			is(t, show("Sums", m, l), show(sums[i].Name, sums[i].Totals, fault), show(m[i].Name, list, api.OK))
		}

		answered := make([]bool, len(l))
		for i := range answered {
			answered[i] = r.Intn(5) > 0
		}
		got, fault := Respond(l, answered)
		want, wanted := respondAgain(l, answered)
		is(t, show("Respond", l, answered), show(got, fault), show(want, wanted))
		faults[fault]++

		for margin := range m {
			got, fault := Post(m, l, margin)
			want, wanted := postAgain(m, l, margin)
			is(t, show("Post", m, l, margin), show(got, fault), show(want, wanted))
			faults[fault]++
		}

		most := ratioBy(big.NewRat(10+r.Int63n(12), 10))
		got, count, fault := Trim(l, most)
		want, wantedCount, wanted := trimAgain(l, most)
		is(t, show("Trim", l, most), show(got, count, fault), show(want, wantedCount, wanted))

		spread, fault := SpreadOf(l)
		wantedSpread, wanted := spreadAgain(l)
		is(t, show("SpreadOf", l), show(spread, fault), show(wantedSpread, wanted))
	}
	if faults[api.OK] < 2000 || faults[api.ErrZero] < 500 {
		t.Error("chance does not go far enough", faults)
	}
}

func TestRakeByChance(t *testing.T) {
	r := rand.New(rand.NewSource(2))
	done, open, zero := 0, 0, 0
	for range 3000 {
		sizes := randomSizes(r)
		m, l := randomMargins(r, sizes), randomPeople(r, r.Intn(12), sizes)
		raking := api.Raking{Places: r.Intn(4), Rounds: r.Intn(8), Distance: ratioBy(big.NewRat(r.Int63n(3), 1+r.Int63n(100)))}
		got, fault := Rake(m, l, raking)
		want, wanted := rakeAgain(t, m, l, raking)
		is(t, show("Rake", m, l, raking), show(got, fault), show(want, wanted))
		switch {
		case fault == api.ErrZero:
			zero++
		case got.Done && got.Rounds > 1:
			done++
		case got.Rounds > 3:
			open++
		}
	}
	if done < 50 || open < 200 || zero < 500 {
		t.Error("chance does not go far enough", done, open, zero)
	}
}

// TestTrimByChance holds people of whom few have great weights, so that some come to the bound later.
func TestTrimByChance(t *testing.T) {
	r := rand.New(rand.NewSource(3))
	greatest := 0
	for range 2000 {
		l := manyPeople(1 + r.Intn(15))
		for i := range l {
			l[i].Weight = ratioBy(big.NewRat(1<<r.Intn(12), 1+r.Int63n(3)))
		}
		most := ratioBy(big.NewRat(10+r.Int63n(10), 10))
		got, count, fault := Trim(l, most)
		want, wantedCount, wanted := trimAgain(l, most)
		is(t, show("Trim", l, most), show(got, count, fault), show(want, wantedCount, wanted))
		var after []*big.Rat
		for _, x := range got {
			after = append(after, rat(x))
		}
		is(t, show("the sum behind Trim", l, most), sumAgain(after).String(), sumAgain(weightsAgain(l)).String())
		greatest = max(greatest, count)
	}
	if greatest < 6 {
		t.Error("chance does not go far enough", greatest)
	}
}

func TestEstimatesByChance(t *testing.T) {
	r := rand.New(rand.NewSource(4))
	for range 1500 {
		l := randomPeople(r, 1+r.Intn(12), randomSizes(r))
		values := make([]int, len(l))
		most := []int{2, 100, 2*api.MaxShares + 1}[r.Intn(3)]
		for i := range values {
			values[i] = r.Intn(most) - most/2
		}
		replicates, fault := Replicates(l)
		again := replicatesAgain(l)
		var want []api.Replicate
		for _, c := range again {
			list, _ := ratiosBy(c.weights)
			want = append(want, api.Replicate{Layer: c.layer, Part: c.part, Weights: list})
		}
		is(t, show("Replicates", l), show(replicates, fault), show(want, api.OK))
		weights := weightsAgain(l)
		for i, x := range []*big.Rat{totalAgain(weights, values), meanAgain(weights, values), varianceAgain(l, values, totalAgain), varianceAgain(l, values, meanAgain)} {
			got, fault := four[i].call(l, values)
			is(t, show(four[i].name, l, values), show(got, fault), show(ratioBy(x), api.OK))
		}
	}
}
