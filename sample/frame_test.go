package sample

import (
	"fmt"
	"math"
	"strings"
	"testing"

	"canvass/api"
)

// eachOfFrame calls all functions with a frame, besides CheckFrame, with designs that have errors of their own.
func eachOfFrame(l []api.Unit, hold func(name string, results ...any)) {
	d := api.Design{Kind: 9}
	strata, fault := Strata(l)
	hold("Strata", strata, fault)
	hold("CheckDesign", CheckDesign(d, l))
	picks, fault := Draw(d, l, strings.Repeat("x", 101))
	hold("Draw", picks, fault)
	chances, fault := Chances(d, l)
	hold("Chances", chances, fault)
	joint, fault := Joint(d, l, -1, -1)
	hold("Joint", joint, fault)
	samples, fault := Samples(d, l)
	hold("Samples", samples, fault)
}

func TestCheckFrame(t *testing.T) {
	for _, x := range []struct {
		text string
		want api.Fault
	}{
		{"1 s 0 1", api.OK}, {"7 a 5000 1000000, 9223372036854775807 b 0 1", api.OK}, {"1 a_16_bytes_long_ 0 1", api.OK}, {"1 a_17_bytes_long__ 0 1", api.ErrName},
		{"0 s 0 1", api.ErrRange}, {"-1 s 0 1", api.ErrRange}, {"1 s 0 1, -9223372036854775808 s 0 1", api.ErrRange},
		{"1 s 0 1, 1 s 0 1", api.ErrOrder}, {"2 s 0 1, 1 s 0 1", api.ErrOrder},
		{"1 S 0 1", api.ErrName}, {"1 1s 0 1", api.ErrName}, {"1 not 0 1", api.ErrName}, {"1 s-t 0 1", api.ErrName},
		{"1 s -1 1", api.ErrRange}, {"1 s 5001 1", api.ErrRange}, {"1 s 0 0", api.ErrRange}, {"1 s 0 -1", api.ErrRange}, {"1 s 0 1000001", api.ErrRange},
		// The order within a unit: Id, its order, the name, the other numbers.
		{"0 S -1 0", api.ErrRange}, {"1 s 0 1, 0 S 0 1", api.ErrRange}, {"2 s 0 1, 2 S -1 0", api.ErrOrder}, {"1 S -1 0", api.ErrName},
		// The first unit with an error tells.
		{"2 s 0 0, 1 s 0 1", api.ErrRange}, {"2 S 0 1, 1 s 0 0", api.ErrName}, {"2 s 0 1, 1 s 0 1, 0 s 0 0", api.ErrOrder},
	} {
		if got := CheckFrame(frame(t, x.text)); got != x.want {
			t.Errorf("CheckFrame(%s) is %d, not %d", x.text, got, x.want)
		}
		if x.want != api.OK {
			eachOfFrame(frame(t, x.text), func(name string, results ...any) { refuses(t, name+" of "+x.text, x.want, results...) })
		}
	}
	for _, u := range []api.Unit{{Id: 1, Size: 1}, {Id: 1, Stratum: "s", Size: math.MaxInt}, {Id: 1, Stratum: "s", Cluster: math.MinInt, Size: 1}} {
		if CheckFrame([]api.Unit{u}) == api.OK {
			t.Error("CheckFrame is OK for", u)
		}
	}
	if CheckFrame(nil) != api.OK || CheckFrame([]api.Unit{}) != api.OK {
		t.Error("CheckFrame of no units")
	}
}

// TestLargeFrames holds the bounds of units and strata, and that the latter goes behind the errors of units (S1).
func TestLargeFrames(t *testing.T) {
	most, bad := manyUnits(api.MaxUnits, api.MaxStrata, 7, 1), manyUnits(api.MaxUnits+1, 1, 7, 1)
	bad[0].Id = 0
	if CheckFrame(most) != api.OK || CheckFrame(bad) != api.ErrLarge {
		t.Error("MaxUnits", CheckFrame(most), CheckFrame(bad))
	}
	eachOfFrame(bad, func(name string, results ...any) { refuses(t, name+" of many units", api.ErrLarge, results...) })
	strata := manyUnits(api.MaxStrata+2, api.MaxStrata+1, 1, 1)
	if CheckFrame(strata) != api.ErrLarge {
		t.Error("MaxStrata", CheckFrame(strata))
	}
	eachOfFrame(strata, func(name string, results ...any) { refuses(t, name+" of many strata", api.ErrLarge, results...) })
	strata[len(strata)-1].Size = 0
	if CheckFrame(strata) != api.ErrRange {
		t.Error("MaxStrata and a unit with an error", CheckFrame(strata))
	}
}

func TestStrata(t *testing.T) {
	for _, x := range []struct{ text, want string }{
		{"1 s 0 1, 2 s 0 2, 3 s 1 3", "[{s 3 2 6}] 0"},
		{mixed, "[{a 4 2 10} {b 7 3 15}] 0"},
		// Names are ordered byte by byte: digits, underscores, letters.
		{"1 b 0 1, 2 a_ 0 2, 3 aa 0 3, 4 a1 0 4, 5 a 0 5, 6 a9 5 6", "[{a 1 1 5} {a1 1 1 4} {a9 1 1 6} {a_ 1 1 2} {aa 1 1 3} {b 1 1 1}] 0"},
		// The same number in another stratum is another cluster.
		{"1 a 4 1, 2 b 4 1, 3 a 5 1, 4 b 4 1", "[{a 2 2 2} {b 2 1 2}] 0"},
	} {
		l, fault := Strata(frame(t, x.text))
		is(t, x.text, show(l, fault), x.want)
	}
	l, fault := Strata(nil)
	is(t, "no units", show(l, fault), "[] 0")
	l, fault = Strata(manyUnits(api.MaxUnits, 1, api.MaxUnits, api.MaxSize))
	is(t, "all units", show(l, fault), fmt.Sprintf("[{s00 5000 5000 %d}] 0", 5000*1000000))
}
