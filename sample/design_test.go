package sample

import (
	"math"
	"strconv"
	"strings"
	"testing"

	"canvass/api"
)

// eachOfDesign calls all functions with a design, besides CheckDesign, with arguments that have errors of their own.
func eachOfDesign(d api.Design, l []api.Unit, hold func(name string, results ...any)) {
	picks, fault := Draw(d, l, strings.Repeat("x", 101))
	hold("Draw", picks, fault)
	chances, fault := Chances(d, l)
	hold("Chances", chances, fault)
	joint, fault := Joint(d, l, -1, -1)
	hold("Joint", joint, fault)
	samples, fault := Samples(d, l)
	hold("Samples", samples, fault)
}

func TestCheckDesign(t *testing.T) {
	const simple, systematic, stages = api.DesignSimple, api.DesignSystematic, api.DesignStages
	l := frame(t, mixed)
	for _, x := range []struct {
		kind  int
		takes string
		want  api.Fault
	}{
		{0, "", api.ErrKind}, {4, "", api.ErrKind}, {-1, "a 1 0,b 1 0", api.ErrKind}, {math.MaxInt, "a 1 0,b 1 0", api.ErrKind},
		{simple, "a 1 0,b 1 0", api.OK}, {simple, "", api.ErrForm}, {simple, "a 1 0", api.ErrForm}, {simple, "b 1 0", api.ErrForm}, {simple, "b 1 0,a 1 0", api.ErrForm}, {simple, "a 1 0,a 1 0,b 1 0", api.ErrForm}, {simple, "a 1 0,b 1 0,b 1 0", api.ErrForm}, {simple, "a 1 0,b 1 0,c 0 0", api.ErrForm}, {simple, "a 1 0,c 1 0", api.ErrForm}, {simple, "a 9 0,c 1 0", api.ErrForm}, {simple, "A 1 0,b 1 0", api.ErrForm},
		{simple, "a 0 0,b 0 0", api.OK}, {simple, "a 4 0,b 7 0", api.OK}, {simple, "a 5 0,b 1 0", api.ErrRange}, {simple, "a 1 0,b 8 0", api.ErrRange}, {simple, "a -1 0,b 1 0", api.ErrRange}, {simple, "a 1 0,b -9223372036854775808 0", api.ErrRange}, {simple, "a 1 0,b 9223372036854775807 0", api.ErrRange},
		{simple, "a 1 1,b 1 0", api.ErrForm}, {simple, "a 1 0,b 1 -1", api.ErrForm}, {systematic, "a 1 1,b 1 0", api.ErrForm}, {systematic, "a 1 0,b 1 2", api.ErrForm},
		// Within a Take the form goes first; the first Take with an error tells.
		{simple, "a 9 1,b 1 0", api.ErrForm}, {systematic, "a 1 0,b -1 1", api.ErrForm}, {simple, "a 9 0,b 1 1", api.ErrRange}, {systematic, "a 3 0,b 1 1", api.ErrRange},
		// Of a, the Sizes are 1 4 2 3: twice 4 is at most 10, three times is not; of b, 4 is the greatest of 15.
		{systematic, "a 2 0,b 3 0", api.OK}, {systematic, "a 0 0,b 0 0", api.OK}, {systematic, "a 3 0,b 3 0", api.ErrRange}, {systematic, "a 2 0,b 4 0", api.ErrRange}, {systematic, "a -1 0,b 3 0", api.ErrRange}, {systematic, "a 2 0,b 8 0", api.ErrRange}, {systematic, "a 2 0,b 9223372036854775807 0", api.ErrRange}, {systematic, "a 9223372036854775807 0,b 1 0", api.ErrRange},
		// Of a, the clusters have the sizes 5 5 and 2 units each; of b, 5 5 5, and 2, 3 and 2 units.
		{stages, "a 2 2,b 3 2", api.OK}, {stages, "a 0 1,b 0 1", api.OK}, {stages, "a 3 1,b 1 1", api.ErrRange}, {stages, "a 1 1,b 4 1", api.ErrRange}, {stages, "a -1 1,b 1 1", api.ErrRange}, {stages, "a 1 0,b 1 1", api.ErrRange}, {stages, "a 1 1,b 1 -1", api.ErrRange}, {stages, "a 1 3,b 1 1", api.ErrRange}, {stages, "a 1 1,b 1 3", api.ErrRange}, {stages, "a 0 0,b 0 1", api.ErrRange}, {stages, "a 0 3,b 0 1", api.ErrRange}, {stages, "a 1 9223372036854775807,b 1 1", api.ErrRange}, {stages, "a 9223372036854775807 1,b 1 1", api.ErrRange}, {stages, "a 1 1,b 1 -9223372036854775808", api.ErrRange}, {stages, "a 1 1", api.ErrForm},
	} {
		var takes []string
		if x.takes != "" {
			takes = strings.Split(x.takes, ",")
		}
		d := design(t, x.kind, takes...)
		if got := CheckDesign(d, l); got != x.want {
			t.Errorf("CheckDesign of %d with %s is %d, not %d", x.kind, x.takes, got, x.want)
		}
		if x.want != api.OK {
			eachOfDesign(d, l, func(name string, results ...any) {
				refuses(t, name+" of "+strconv.Itoa(x.kind)+" with "+x.takes, x.want, results...)
			})
		}
	}
}

// TestUnequalClusters holds the bounds of DesignStages for clusters of different sizes (S4).
func TestUnequalClusters(t *testing.T) {
	l := frame(t, "1 s 0 3, 2 s 1 1, 3 s 1 1, 4 s 2 1")
	for _, x := range []struct {
		first, second int
		want          api.Fault
	}{{1, 1, api.OK}, {2, 1, api.OK}, {3, 1, api.ErrRange}, {1, 2, api.ErrRange}, {0, 1, api.OK}} {
		if got := CheckDesign(sameTakes(t, api.DesignStages, l, x.first, x.second), l); got != x.want {
			t.Errorf("%d clusters, %d units of each: %d, not %d", x.first, x.second, got, x.want)
		}
	}
}

// TestDesignOfNothing holds that a frame without units has a design without Takes.
func TestDesignOfNothing(t *testing.T) {
	for kind := api.DesignSimple; kind <= api.DesignStages; kind++ {
		if CheckDesign(api.Design{Kind: kind}, nil) != api.OK {
			t.Error("no Takes", kind)
		}
		if CheckDesign(api.Design{Kind: kind, Takes: []api.Take{{Stratum: "a"}}}, nil) != api.ErrForm {
			t.Error("a Take", kind)
		}
	}
	if CheckDesign(api.Design{}, nil) != api.ErrKind {
		t.Error("no kind")
	}
}

// TestGreatDesigns holds the bounds of Sizes where they are greatest.
func TestGreatDesigns(t *testing.T) {
	l := manyUnits(api.MaxUnits, 1, api.MaxUnits, api.MaxSize)
	for _, kind := range []int{api.DesignSystematic, api.DesignStages} {
		d := sameTakes(t, kind, l, api.MaxUnits, kind/api.DesignStages)
		if got := CheckDesign(d, l); got != api.OK {
			t.Error("equal Sizes", kind, got)
		}
		l[7].Size--
		if got := CheckDesign(d, l); got != api.ErrRange {
			t.Error("unequal Sizes", kind, got)
		}
		l[7].Size++
	}
}
