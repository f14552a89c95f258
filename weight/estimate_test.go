package weight

import (
	"math/big"
	"testing"

	"canvass/api"
)

// four are the functions of W9.
var four = []struct {
	name string
	call func(l []api.Person, values []int) (api.Ratio, api.Fault)
}{{"Total", Total}, {"Mean", Mean}, {"TotalVariance", TotalVariance}, {"MeanVariance", MeanVariance}}

// TestEstimates holds W9.
func TestEstimates(t *testing.T) {
	for _, x := range []struct{ what, people, values, want string }{
		{"one person", "2/3", "6", "4 6 0 0"},
		{"one part", "1, 3", "2 4", "14 7/2 0 0"},
		{"two parts", "1 - 0 0 0, 3 - 0 0 1", "2 4", "14 7/2 100 5/4"},
		{"equal values", "1 - 0 0 0, 3 - 0 0 1", "5 5", "20 5 100 0"},
		{"values of 0", "1 - 0 0 0, 3 - 0 0 1", "0 0", "0 0 0 0"},
		{"values below 0", "1 - 0 0 0, 3 - 0 0 1", "-2 -4", "-14 -7/2 100 5/4"},
		{"one of each sign", "1 - 0 0 0, 3 - 0 0 1", "3 -1", "0 0 36 5"},
		// The totals of the replicates are 9, 12 and 9, the means 2, 8/3 and 3/2.
		{"three parts", "2 - 0 4 1, 2 - 0 4 2, 1 - 0 4 7", "2 1 4", "10 2 4 25/54"},
		// The totals of the replicates are 4 + 3 and 2 + 3, the means 7/3 and 5/3.
		{"a layer with one part", "1 - 0 1 1, 1 - 0 1 2, 1 - 0 2 1", "1 2 3", "6 2 1 1/9"},
		{"two layers", "1 - 0 1 1, 1 - 0 2 1, 1 - 0 1 2, 1 - 0 2 2", "1 2 5 9", "17 17/4 65 65/16"},
		{"people of a part together", "1 - 0 1 1, 1 - 0 1 2, 1 - 0 1 1, 1 - 0 1 2", "1 2 5 9", "17 17/4 25 25/16"},
		{"the greatest values", "999999999999 - 0 1 1, 999999999999 - 0 1 2", "1000000000 -1000000000", "0 0 3999999999992000000000004000000000000000000 1000000000000000000"},
	} {
		var got []any
		for _, f := range four {
			r, fault := f.call(peopleIn(t, x.people), numbers(t, x.values, " "))
			refuses(t, x.what+", "+f.name, api.OK, r, fault)
			got = append(got, r)
		}
		is(t, x.what, show(got...), x.want)
	}
}

// TestEstimatesOfNobody holds what comes of no people (W9).
func TestEstimatesOfNobody(t *testing.T) {
	for i, want := range []string{"0 0", "/ 19", "0 0", "/ 19"} {
		r, fault := four[i].call(nil, nil)
		is(t, four[i].name, show(r, fault), want)
	}
}

// sought is arguments of the functions of W9.
type sought struct {
	l      []api.Person
	values []int
}

// TestEstimateFaults holds the errors of W9 and their order.
func TestEstimateFaults(t *testing.T) {
	for i, f := range four {
		check := func(x sought) api.Fault {
			r, fault := f.call(x.l, x.values)
			refuses(t, f.name, fault, r, fault)
			return fault
		}
		base := func() sought {
			return sought{peopleIn(t, "1 0 0 0 0, 1 0 0 0 1, 1 0 0 0 2"), []int{-api.MaxShares, api.MaxShares, 7}}
		}
		climb(t, base, check, []rung[sought]{
			{"people", func(x *sought) { x.l[1].Weight = parts("-1") }, api.ErrRange},
			{"a value too few", func(x *sought) { x.values = x.values[:2] }, api.ErrForm},
			{"a value below", func(x *sought) { x.values[0] = -api.MaxShares - 1 }, api.ErrRange},
			{"a value beyond", func(x *sought) { x.values[1] = api.MaxShares + 1 }, api.ErrRange},
		})
		nobody := sought{nil, []int{1 << 62}}
		if fault := check(nobody); fault != api.ErrForm {
			t.Errorf("%s of nobody, with values: fault %d", f.name, fault)
		}
		x := base()
		x.values = append(x.values, 1<<62)
		if fault := check(x); fault != api.ErrForm {
			t.Errorf("%s with a value too many: fault %d", f.name, fault)
		}
		if i >= 2 {
			x := sought{layered(61), make([]int, 61)}
			x.values[60] = 1 << 62
			if fault := check(x); fault != api.ErrRange {
				t.Errorf("%s: values come ahead of replicates: fault %d", f.name, fault)
			}
		}
	}
}

// TestManyDenominators holds that short results are told although what is computed on the way is long: the denominators are primes, and the two people who have the same one, and are in the same part and cell, together have the weight 1.
func TestManyDenominators(t *testing.T) {
	l, values := manyPeople(600), make([]int, 600)
	for i, p := range primesFrom(1000000000000, 300) {
		l[i].Weight, l[i+300].Weight = ratioBy(big.NewRat(1, int64(p))), ratioBy(big.NewRat(int64(p-1), int64(p)))
		for _, j := range []int{i, i + 300} {
			l[j].Part, l[j].Cells, values[j] = i%7, []int{i % 2}, 3
		}
	}
	// Of the 7 parts, 6 have 43 of the pairs, and one has 42: the variance of the total is (7 (6 * 129^2 + 126^2) - 900^2) / 6.
	for i, want := range []string{"900 0", "3 0", "9 0", "0 0"} {
		r, fault := four[i].call(l, values)
		is(t, four[i].name, show(r, fault), want)
	}
	for i := range values {
		values[i] = l[i].Part // so that only the sums of the parts matter
	}
	r, fault := MeanVariance(l, values)
	again := layered(7)
	for i := range again {
		again[i].Weight = parts("43")
	}
	again[6].Weight = parts("42")
	want, _ := MeanVariance(again, []int{0, 1, 2, 3, 4, 5, 6})
	is(t, "MeanVariance", show(r, fault), show(want, api.OK))
	m := marginsIn(t, "m 100 200")
	sums, fault := Sums(m, l)
	is(t, "Sums", show(sums, fault), "m[150 150] 0")
	raked, fault := Rake(m, l, api.Raking{Distance: parts("0")})
	is(t, "Rake", show(raked.Distance, fault), "50 0")
	spread, fault := SpreadOf(l)
	refuses(t, "SpreadOf, as the sum of the squares is long", api.ErrLarge, spread, fault)
}
