package sample

import (
	"fmt"
	"math"
	"math/big"
	"math/rand"
	"slices"
	"testing"

	"canvass/api"
)

func rateText(x api.Rates) string {
	return show(x.Response, x.WithPartial, x.Estimated, x.Reached, x.Cooperation, x.Refusal, x.Contact)
}

func TestRates(t *testing.T) {
	const none = "0/1 0/1 0/1 0/1 0/1 0/1 0/1"
	for _, x := range []struct {
		outcomes []int
		want     string
	}{
		{[]int{1, 1, 3, 4, 6, 7, 2}, "1/3 1/2 12/35 2/5 1/2 1/6 2/3"},
		{nil, none}, {[]int{2}, none}, {[]int{7}, none}, {[]int{2, 7}, none}, {[]int{6}, none},
		{[]int{1}, "1/1 1/1 1/1 1/1 1/1 0/1 1/1"}, {[]int{3}, "0/1 1/1 0/1 0/1 0/1 0/1 1/1"}, {[]int{4}, "0/1 0/1 0/1 0/1 0/1 1/1 1/1"}, {[]int{5}, "0/1 0/1 0/1 0/1 0/1 0/1 1/1"},
		{[]int{1, 5}, "1/2 1/2 1/2 1/2 1/2 0/1 1/1"}, {[]int{1, 6}, "1/2 1/2 1/2 1/2 1/1 0/1 1/2"}, {[]int{1, 2}, "1/1 1/1 1/1 1/1 1/1 0/1 1/1"},
		// Of 2 unknown cases 1/2 counts, or both, or none.
		{[]int{1, 2, 7, 7}, "1/3 1/3 1/2 1/1 1/1 0/1 1/3"}, {[]int{1, 7, 7}, "1/3 1/3 1/3 1/1 1/1 0/1 1/3"}, {[]int{2, 7, 7}, none},
	} {
		got, fault := Rates(x.outcomes)
		is(t, fmt.Sprint("Rates ", x.outcomes), rateText(got)+show("", fault), x.want+" 0")
	}
	got, fault := Rates(slices.Repeat([]int{1}, api.MaxUnits))
	is(t, "MaxUnits", rateText(got)+show("", fault), "1/1 1/1 1/1 1/1 1/1 0/1 1/1 0")
}

func TestRateFaults(t *testing.T) {
	for _, x := range []struct {
		outcomes []int
		want     api.Fault
	}{
		{slices.Repeat([]int{1}, api.MaxUnits+1), api.ErrLarge}, {slices.Repeat([]int{0}, api.MaxUnits+1), api.ErrLarge},
		{[]int{0}, api.ErrKind}, {[]int{8}, api.ErrKind}, {[]int{1, -1}, api.ErrKind}, {[]int{1, math.MaxInt, 2}, api.ErrKind}, {[]int{math.MinInt}, api.ErrKind},
	} {
		got, fault := Rates(x.outcomes)
		refuses(t, fmt.Sprintf("Rates %.20v", x.outcomes), x.want, got, fault)
	}
}

// TestRatesByChance holds the rates against their table (S9), with rational numbers.
func TestRatesByChance(t *testing.T) {
	r := rand.New(rand.NewSource(8))
	for range 500 {
		outcomes := make([]int, r.Intn(30))
		n := map[int]int64{}
		for i := range outcomes {
			outcomes[i] = 1 + r.Intn(1+r.Intn(7))
			n[outcomes[i]]++
		}
		i, p, f, o, c, u, x := n[api.OutComplete], n[api.OutPartial], n[api.OutRefusal], n[api.OutOther], n[api.OutNoContact], n[api.OutUnknown], n[api.OutIneligible]
		part := func(num int64, den *big.Rat) api.Ratio {
			if den.Sign() == 0 {
				return api.Ratio{Num: "0", Den: "1"}
			}
			return ratioOf(new(big.Rat).Quo(big.NewRat(num, 1), den))
		}
		whole := func(n int64) *big.Rat { return big.NewRat(n, 1) }
		e := new(big.Rat)
		if i+p+f+o+c+x > 0 {
			e = big.NewRat(i+p+f+o+c, i+p+f+o+c+x)
		}
		estimated := new(big.Rat).Add(whole(i+p+f+o+c), new(big.Rat).Mul(e, whole(u)))
		want := api.Rates{
			Response: part(i, whole(i+p+f+o+c+u)), WithPartial: part(i+p, whole(i+p+f+o+c+u)), Estimated: part(i, estimated), Reached: part(i, whole(i+p+f+o+c)),
			Cooperation: part(i, whole(i+p+f+o)), Refusal: part(f, whole(i+p+f+o+c+u)), Contact: part(i+p+f+o, whole(i+p+f+o+c+u)),
		}
		if got, fault := Rates(outcomes); got != want || fault != api.OK {
			t.Fatal("Rates", outcomes, rateText(got), rateText(want), fault)
		}
	}
}
