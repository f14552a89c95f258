package sample

import (
	"fmt"
	"math"
	"math/rand"
	"slices"
	"testing"

	"canvass/api"
)

func TestCheckRotation(t *testing.T) {
	for _, x := range []struct {
		r    api.Rotation
		want api.Fault
	}{
		{api.Rotation{In: 1}, api.OK}, {api.Rotation{In: 1000, Out: 1000, Again: 1000}, api.OK}, {api.Rotation{In: 4, Out: 8, Again: 4}, api.OK}, {api.Rotation{In: 1, Out: 0, Again: 1}, api.OK}, {api.Rotation{In: 1000}, api.OK},
		{api.Rotation{}, api.ErrRange}, {api.Rotation{In: -1}, api.ErrRange}, {api.Rotation{In: 1001}, api.ErrRange}, {api.Rotation{In: 1, Out: -1, Again: 1}, api.ErrRange}, {api.Rotation{In: 1, Out: 1001, Again: 1}, api.ErrRange}, {api.Rotation{In: 1, Out: 1, Again: -1}, api.ErrRange}, {api.Rotation{In: 1, Out: 1, Again: 1001}, api.ErrRange}, {api.Rotation{In: math.MaxInt, Out: math.MaxInt, Again: math.MinInt}, api.ErrRange},
		{api.Rotation{In: 1, Out: 1}, api.ErrForm}, {api.Rotation{In: 1000, Out: 1000}, api.ErrForm},
		// The ranges go first.
		{api.Rotation{In: 0, Out: 1}, api.ErrRange}, {api.Rotation{In: 1, Out: 1001}, api.ErrRange},
	} {
		if got := CheckRotation(x.r); got != x.want {
			t.Error("CheckRotation", x.r, got, x.want)
		}
		if x.want != api.OK {
			groups, fault := Groups(x.r, 0)
			refuses(t, fmt.Sprint("Groups ", x.r), x.want, groups, fault)
			part, fault := Overlap(x.r, 0, 0)
			refuses(t, fmt.Sprint("Overlap ", x.r), x.want, part, fault)
		}
	}
}

func TestGroups(t *testing.T) {
	for _, x := range []struct {
		r    api.Rotation
		wave int
		want string
	}{
		{api.Rotation{In: 2, Out: 1, Again: 1}, 1, "[1] 0"}, {api.Rotation{In: 2, Out: 1, Again: 1}, 2, "[1 2] 0"}, {api.Rotation{In: 2, Out: 1, Again: 1}, 3, "[2 3] 0"}, {api.Rotation{In: 2, Out: 1, Again: 1}, 4, "[1 3 4] 0"}, {api.Rotation{In: 2, Out: 1, Again: 1}, 5, "[2 4 5] 0"},
		{api.Rotation{In: 4, Out: 8, Again: 4}, 20, "[5 6 7 8 17 18 19 20] 0"}, {api.Rotation{In: 1}, 1000, "[1000] 0"}, {api.Rotation{In: 1, Again: 2}, 9, "[7 8 9] 0"}, {api.Rotation{In: 1, Out: 998, Again: 5}, 1000, "[1 1000] 0"}, {api.Rotation{In: 1, Out: 999, Again: 5}, 1000, "[1000] 0"},
	} {
		l, fault := Groups(x.r, x.wave)
		is(t, fmt.Sprint("Groups ", x.r, x.wave), show(l, fault), x.want)
	}
	for _, wave := range []int{0, -1, 1001, math.MinInt, math.MaxInt} {
		l, fault := Groups(api.Rotation{In: 1}, wave)
		refuses(t, fmt.Sprint("Groups ", wave), api.ErrRange, l, fault)
	}
	l, fault := Groups(api.Rotation{In: 1000, Out: 1000, Again: 1000}, 1000)
	if len(l) != 1000 || fault != api.OK {
		t.Error("all groups", len(l), fault)
	}
}

func TestOverlap(t *testing.T) {
	us := api.Rotation{In: 4, Out: 8, Again: 4}
	for _, x := range []struct {
		r           api.Rotation
		wave, later int
		want        string
	}{
		{api.Rotation{In: 2, Out: 1, Again: 1}, 4, 5, "1/3 0"}, {us, 100, 101, "3/4 0"}, {us, 100, 102, "1/2 0"}, {us, 100, 112, "1/2 0"}, {us, 100, 104, "0/1 0"}, {us, 100, 109, "1/8 0"}, {us, 100, 100, "1/1 0"}, {us, 1, 2, "1/1 0"}, {us, 1, 5, "0/1 0"}, {us, 985, 1000, "1/8 0"}, {us, 1000, 1000, "1/1 0"},
		{api.Rotation{In: 1}, 1, 1, "1/1 0"}, {api.Rotation{In: 1}, 1, 2, "0/1 0"},
	} {
		got, fault := Overlap(x.r, x.wave, x.later)
		is(t, fmt.Sprint("Overlap ", x), show(got, fault), x.want)
	}
	for _, x := range [][2]int{{0, 1}, {-1, -1}, {2, 1}, {1000, 1001}, {1001, 1001}, {1, math.MaxInt}, {math.MinInt, 1}, {math.MinInt, math.MinInt}, {1, 0}} {
		got, fault := Overlap(us, x[0], x[1])
		refuses(t, fmt.Sprint("Overlap ", x), api.ErrRange, got, fault)
	}
}

// TestPanelsByChance holds groups and overlaps against the waves of each group (S7).
func TestPanelsByChance(t *testing.T) {
	r := rand.New(rand.NewSource(6))
	for range 200 {
		x := api.Rotation{In: 1 + r.Intn(4), Again: r.Intn(4)}
		if x.Again > 0 {
			x.Out = r.Intn(4)
		}
		in := map[int][]int{}
		for g := 1; g <= 40; g++ {
			for wave := g; wave <= g+x.In-1; wave++ {
				in[wave] = append(in[wave], g)
			}
			for wave := g + x.In + x.Out; wave <= g+x.In+x.Out+x.Again-1; wave++ {
				in[wave] = append(in[wave], g)
			}
		}
		for wave := 1; wave <= 25; wave++ {
			got, fault := Groups(x, wave)
			slices.Sort(in[wave])
			if !slices.Equal(got, in[wave]) || fault != api.OK {
				t.Fatal("Groups", x, wave, got, in[wave], fault)
			}
			for later := wave; later <= 40; later++ {
				both := 0
				for _, g := range in[wave] {
					if slices.Contains(in[later], g) {
						both++
					}
				}
				if got, fault := Overlap(x, wave, later); got != ratioOf(rat(both, len(in[wave]))) || fault != api.OK {
					t.Fatal("Overlap", x, wave, later, got, both, fault)
				}
			}
		}
	}
}
