package sample

import (
	"math"
	"math/big"
	"math/rand"
	"slices"
	"testing"

	"canvass/api"
)

func TestHits(t *testing.T) {
	for _, x := range []struct {
		sizes       []int
		take, start int
		want        string
	}{
		{[]int{1, 2, 3}, 2, 0, "[1 0 1] 0"}, {[]int{1, 2, 3}, 2, 1, "[1 0 1] 0"}, {[]int{1, 2, 3}, 2, 2, "[0 1 1] 0"}, {[]int{1, 2, 3}, 2, 5, "[0 1 1] 0"},
		{[]int{1, 2, 3}, 0, 5, "[0 0 0] 0"}, {[]int{1, 2, 3}, 1, 0, "[1 0 0] 0"}, {[]int{1, 2, 3}, 1, 1, "[0 1 0] 0"}, {[]int{1, 2, 3}, 1, 2, "[0 1 0] 0"}, {[]int{1, 2, 3}, 1, 3, "[0 0 1] 0"},
		// Elements that are larger than the step are hit more than once.
		{[]int{1, 5}, 3, 0, "[1 2] 0"}, {[]int{1, 5}, 3, 3, "[0 3] 0"}, {[]int{7}, 5000, 6, "[5000] 0"}, {[]int{1}, 1, 0, "[1] 0"},
	} {
		l, fault := Hits(x.sizes, x.take, x.start)
		is(t, show("Hits", x.sizes, x.take, x.start), show(l, fault), x.want)
	}
}

func TestHitsFaults(t *testing.T) {
	const most = api.MaxUnits * api.MaxSize
	many := slices.Repeat([]int{1}, api.MaxUnits+1)
	for _, x := range []struct {
		sizes       []int
		take, start int
		want        api.Fault
	}{
		{many, 1, 0, api.ErrLarge}, {slices.Repeat([]int{0}, api.MaxUnits+1), -1, -1, api.ErrLarge}, {many[1:], 1, 0, api.OK},
		{[]int{0}, 1, 0, api.ErrRange}, {[]int{1, -1}, 1, 0, api.ErrRange}, {[]int{most + 1}, 1, 0, api.ErrRange}, {[]int{most}, 1, most - 1, api.OK}, {[]int{math.MaxInt, math.MaxInt}, 1, 0, api.ErrRange}, {[]int{math.MinInt}, 1, 0, api.ErrRange},
		{[]int{1}, -1, 0, api.ErrRange}, {[]int{1}, 5001, 0, api.ErrRange}, {[]int{1}, 5000, 0, api.OK}, {[]int{1}, math.MinInt, 0, api.ErrRange},
		{[]int{1, 2}, 1, 3, api.ErrRange}, {[]int{1, 2}, 1, 2, api.OK}, {[]int{1, 2}, 1, -1, api.ErrRange}, {[]int{1, 2}, 0, 3, api.ErrRange}, {[]int{1, 2}, 1, math.MaxInt, api.ErrRange},
		{nil, 0, 0, api.ErrRange}, {nil, 1, 0, api.ErrRange},
	} {
		l, fault := Hits(x.sizes, x.take, x.start)
		if x.want == api.OK {
			if fault != api.OK || len(l) != len(x.sizes) {
				t.Error("Hits", x.take, x.start, fault)
			}
			continue
		}
		refuses(t, show("Hits", len(x.sizes), x.take, x.start), x.want, l, fault)
	}
}

// hitsByRule counts, number by number, in whose stretch it lies.
func hitsByRule(sizes []int, take, start int) []int {
	out, sum := make([]int, len(sizes)), sumOf(sizes)
	for k := range take {
		number, from := start+k*sum, 0
		for i, size := range sizes {
			if take*from <= number && number < take*(from+size) {
				out[i]++
			}
			from += size
		}
	}
	return out
}

// TestHitsByChance holds Hits against the rule, and from how many starts an element is hit that is hit at most once (S3).
func TestHitsByChance(t *testing.T) {
	r := rand.New(rand.NewSource(2))
	for range 300 {
		sizes := make([]int, 1+r.Intn(6))
		for i := range sizes {
			sizes[i] = 1 + r.Intn(7)
		}
		take, sum, starts := r.Intn(9), sumOf(sizes), make([]int, len(sizes))
		for start := range sum {
			got, fault := Hits(sizes, take, start)
			if want := hitsByRule(sizes, take, start); fault != api.OK || !slices.Equal(got, want) {
				t.Fatal("Hits", sizes, take, start, got, want, fault)
			}
			for i, n := range got {
				starts[i] += n
			}
		}
		for i, size := range sizes {
			if starts[i] != take*size {
				t.Fatal("hits from all starts", sizes, take, i, starts[i])
			}
		}
	}
}

// TestHitsOfGreatSizes holds Hits where the products are greatest, against big numbers.
func TestHitsOfGreatSizes(t *testing.T) {
	sizes, sum := make([]int, api.MaxUnits), 0
	for i := range sizes {
		sizes[i] = api.MaxUnits*api.MaxSize - i*7919%13
		sum += sizes[i]
	}
	for _, start := range []int{0, 1, sum / 2, sum - 1} {
		got, fault := Hits(sizes, api.MaxUnits, start)
		if fault != api.OK {
			t.Fatal("Hits", fault)
		}
		ahead, known := new(big.Int), int64(0)
		for i, size := range sizes {
			ahead.Add(ahead, big.NewInt(int64(size)))
			before := new(big.Int).Mul(ahead, big.NewInt(api.MaxUnits))
			before.Sub(before, big.NewInt(int64(start)))
			// The numbers ahead of the end are as many as steps fit, rounded up.
			before.Add(before, big.NewInt(int64(sum-1))).Div(before, big.NewInt(int64(sum)))
			if int64(got[i]) != max(0, before.Int64())-known {
				t.Fatal("Hits from", start, "of", i, got[i])
			}
			known = max(0, before.Int64())
		}
	}
}
