package sample

import (
	"math"
	"math/rand"
	"slices"
	"testing"

	"canvass/api"
)

func TestAllocate(t *testing.T) {
	for _, x := range []struct {
		weights, least, most []int
		total                int
		want                 string
	}{
		{[]int{3, 1}, []int{0, 0}, []int{9, 9}, 4, "[3 1] 0"},
		{nil, nil, []int{}, 0, "[] 0"},
		// Of equally great quotients the first one: 1/1 and 1/1, 3/3 and 1/1, 5/5 and 1/1.
		{[]int{1, 1, 1}, []int{0, 0, 0}, []int{9, 9, 9}, 2, "[1 1 0] 0"}, {[]int{1, 3}, []int{0, 0}, []int{9, 9}, 2, "[1 1] 0"}, {[]int{5, 1}, []int{0, 0}, []int{9, 9}, 3, "[3 0] 0"}, {[]int{1, 5}, []int{0, 0}, []int{9, 9}, 3, "[1 2] 0"},
		{[]int{53, 24, 23}, []int{0, 0, 0}, []int{9, 9, 9}, 7, "[3 2 2] 0"},
		// The numbers of least count, as they do for the quotients.
		{[]int{10, 1}, []int{0, 3}, []int{9, 9}, 3, "[0 3] 0"}, {[]int{10, 1}, []int{0, 3}, []int{9, 9}, 5, "[2 3] 0"}, {[]int{10, 7}, []int{4, 0}, []int{9, 9}, 8, "[5 3] 0"},
		// Those that have their most are left out; then also a weight of 0 gets all.
		{[]int{10, 1}, []int{0, 0}, []int{2, 9}, 6, "[2 4] 0"}, {[]int{0, 1, 0}, []int{0, 0, 0}, []int{2, 1, 2}, 1, "[0 1 0] 0"}, {[]int{0, 1, 0}, []int{0, 0, 0}, []int{2, 1, 2}, 4, "[2 1 1] 0"}, {[]int{0, 0}, []int{0, 0}, []int{5, 5}, 3, "[3 0] 0"}, {[]int{9, 1}, []int{0, 0}, []int{0, 1}, 1, "[0 1] 0"},
		{[]int{4}, []int{5000}, []int{5000}, 5000, "[5000] 0"}, {[]int{1, 2}, []int{1, 1}, []int{3, 4}, 7, "[3 4] 0"},
		// Quotients are exact: those of 999999999 and 1000000000 differ.
		{[]int{999999999, 1000000000}, []int{0, 0}, []int{5000, 5000}, 1, "[0 1] 0"}, {[]int{999999999, 1000000000}, []int{4999, 4999}, []int{5000, 5000}, 9999, "[4999 5000] 0"}, {[]int{1000000000, 999999999}, []int{0, 0}, []int{5000, 5000}, 9999, "[5000 4999] 0"},
	} {
		l, fault := Allocate(x.weights, x.least, x.most, x.total)
		is(t, show("Allocate", x.weights, x.least, x.most, x.total), show(l, fault), x.want)
	}
}

func TestAllocateFaults(t *testing.T) {
	many := make([]int, api.MaxStrata+1)
	bad := slices.Clone(many)
	bad[0] = -1
	for _, x := range []struct {
		weights, least, most []int
		total                int
		want                 api.Fault
	}{
		{[]int{1}, []int{0, 0}, []int{1, 1}, 1, api.ErrForm}, {[]int{1, 1}, []int{0}, []int{1, 1}, 1, api.ErrForm}, {[]int{1, 1}, []int{0, 0}, []int{1}, 1, api.ErrForm}, {many, many, []int{-1}, -1, api.ErrForm}, {nil, nil, []int{1}, 1, api.ErrForm},
		{many, many, many, 0, api.ErrLarge}, {bad, bad, bad, -1, api.ErrLarge}, {many[1:], many[1:], many[1:], 0, api.OK},
		{[]int{-1}, []int{0}, []int{1}, 1, api.ErrRange}, {[]int{1000000001}, []int{0}, []int{1}, 1, api.ErrRange}, {[]int{1000000000}, []int{0}, []int{1}, 1, api.OK}, {[]int{1}, []int{-1}, []int{1}, 1, api.ErrRange}, {[]int{1}, []int{2}, []int{1}, 2, api.ErrRange}, {[]int{1}, []int{0}, []int{5001}, 1, api.ErrRange}, {[]int{1}, []int{0}, []int{-1}, 0, api.ErrRange},
		{[]int{1, math.MaxInt}, []int{0, 0}, []int{1, 1}, 3, api.ErrRange}, {[]int{1, 1}, []int{0, math.MinInt}, []int{1, math.MaxInt}, 1, api.ErrRange},
		{[]int{1, 1}, []int{1, 2}, []int{3, 3}, 2, api.ErrRange}, {[]int{1, 1}, []int{1, 2}, []int{3, 3}, math.MinInt, api.ErrRange}, {nil, nil, nil, -1, api.ErrRange},
		{[]int{1, 1}, []int{1, 2}, []int{3, 3}, 7, api.ErrFull}, {[]int{1, 1}, []int{1, 2}, []int{3, 3}, math.MaxInt, api.ErrFull}, {nil, nil, nil, 1, api.ErrFull},
		// A part with an error goes ahead of a total that is too great.
		{[]int{1, -1}, []int{0, 0}, []int{1, 1}, 9, api.ErrRange},
	} {
		l, fault := Allocate(x.weights, x.least, x.most, x.total)
		if x.want == api.OK {
			if fault != api.OK {
				t.Error("Allocate", x, fault)
			}
			continue
		}
		refuses(t, show("Allocate", x.weights, x.least, x.most, x.total), x.want, l, fault)
	}
}

// TestAllocateByChance holds the sum, the bounds and the steps of Allocate: with 1 more in all, the part gets it that has the greatest quotient.
func TestAllocateByChance(t *testing.T) {
	r := rand.New(rand.NewSource(1))
	for range 300 {
		n := 1 + r.Intn(5)
		weights, least, most := make([]int, n), make([]int, n), make([]int, n)
		for i := range n {
			weights[i], least[i] = r.Intn(20), r.Intn(3)
			most[i] = least[i] + r.Intn(6)
		}
		before := slices.Clone(least)
		for total := sumOf(least); total <= sumOf(most); total++ {
			got, fault := Allocate(weights, least, most, total)
			if fault != api.OK || !slices.Equal(got, before) {
				t.Fatal("Allocate", weights, least, most, total, got, before, fault)
			}
			best := -1
			for i := n - 1; i >= 0; i-- {
				if before[i] < most[i] && (best < 0 || rat(weights[i], 2*before[i]+1).Cmp(rat(weights[best], 2*before[best]+1)) >= 0) {
					best = i
				}
			}
			if best >= 0 {
				before[best]++
			}
		}
	}
}

// TestAllocateMost holds that the greatest parts are divided, too.
func TestAllocateMost(t *testing.T) {
	weights, least, most := make([]int, api.MaxStrata), make([]int, api.MaxStrata), make([]int, api.MaxStrata)
	for i := range weights {
		weights[i], most[i] = api.MaxShares-i, api.MaxUnits
	}
	if got, fault := Allocate(weights, least, most, api.MaxStrata*api.MaxUnits); !slices.Equal(got, most) || fault != api.OK {
		t.Error("all of most", fault)
	}
}
