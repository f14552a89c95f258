package sample

import (
	"fmt"
	"math"
	"math/rand"
	"testing"

	"canvass/api"
)

func TestJoint(t *testing.T) {
	for _, x := range []struct {
		kind  int
		text  string
		takes []string
		a, b  int
		want  string
	}{
		{2, "1 s 0 1, 2 s 0 2, 3 s 1 3", []string{"s 2 0"}, 1, 2, "0/1 0"}, {2, "1 s 0 1, 2 s 0 2, 3 s 1 3", []string{"s 2 0"}, 2, 3, "2/3 0"}, {2, "1 s 0 1, 2 s 0 2, 3 s 1 3", []string{"s 2 0"}, 3, 1, "1/3 0"},
		// A unit with itself has its chance.
		{2, "1 s 0 1, 2 s 0 2, 3 s 1 3", []string{"s 2 0"}, 2, 2, "2/3 0"}, {1, mixed, []string{"a 2 0", "b 3 0"}, 21, 21, "3/7 0"}, {3, mixed, []string{"a 1 1", "b 2 2"}, 21, 21, "4/9 0"}, {1, "1 s 0 1", []string{"s 1 0"}, 1, 1, "1/1 0"}, {3, "1 s 0 1", []string{"s 1 1"}, 1, 1, "1/1 0"},
		// Of different strata the product.
		{1, mixed, []string{"a 2 0", "b 3 0"}, 1, 3, "3/14 0"}, {2, mixed, []string{"a 2 0", "b 3 0"}, 20, 15, "12/25 0"}, {3, mixed, []string{"a 1 1", "b 2 2"}, 9, 12, "1/6 0"}, {3, mixed, []string{"a 1 1", "b 0 2"}, 9, 12, "0/1 0"},
		{1, mixed, []string{"a 2 0", "b 3 0"}, 3, 20, "1/6 0"}, {1, mixed, []string{"a 2 0", "b 3 0"}, 1, 21, "1/7 0"}, {1, mixed, []string{"a 1 0", "b 7 0"}, 3, 20, "0/1 0"}, {1, mixed, []string{"a 0 0", "b 7 0"}, 3, 20, "0/1 0"}, {1, mixed, []string{"a 0 0", "b 7 0"}, 1, 21, "1/1 0"},
		// Of one cluster, with one unit of each and with two.
		{3, mixed, []string{"a 1 1", "b 2 1"}, 1, 8, "0/1 0"}, {3, mixed, []string{"a 1 2", "b 2 2"}, 1, 8, "2/9 0"}, {3, mixed, []string{"a 1 2", "b 2 2"}, 3, 7, "1/2 0"},
		// Of two clusters: a third of the starts hits both; 2 of 3 units and 2 of 2 are drawn.
		{3, mixed, []string{"a 2 1", "b 2 2"}, 1, 15, "2/9 0"}, {3, mixed, []string{"a 2 1", "b 2 2"}, 3, 12, "1/4 0"}, {3, mixed, []string{"a 1 1", "b 2 2"}, 3, 12, "0/1 0"},
		{2, "1 s 0 1, 2 s 0 1, 3 s 0 1, 4 s 0 1", []string{"s 2 0"}, 1, 3, "1/2 0"}, {2, "1 s 0 1, 2 s 0 1, 3 s 0 1, 4 s 0 1", []string{"s 2 0"}, 2, 3, "0/1 0"}, {2, "1 s 0 1, 2 s 0 1, 3 s 0 1, 4 s 0 1", []string{"s 0 0"}, 1, 3, "0/1 0"}, {2, "1 s 0 2, 2 s 0 2", []string{"s 2 0"}, 1, 2, "1/1 0"},
	} {
		got, fault := Joint(design(t, x.kind, x.takes...), frame(t, x.text), x.a, x.b)
		is(t, fmt.Sprint(x), show(got, fault), x.want)
	}
}

func TestJointFaults(t *testing.T) {
	l := frame(t, mixed)
	d := design(t, api.DesignSimple, "a 2 0", "b 3 0")
	for _, x := range [][2]int{{1, 2}, {2, 1}, {2, 2}, {0, 1}, {1, 22}, {math.MinInt, 1}, {1, math.MaxInt}, {math.MaxInt, math.MinInt}} {
		got, fault := Joint(d, l, x[0], x[1])
		refuses(t, fmt.Sprint("Joint ", x), api.ErrNone, got, fault)
	}
	got, fault := Joint(api.Design{Kind: api.DesignSimple}, nil, 1, 1)
	refuses(t, "Joint of no units", api.ErrNone, got, fault)
}

// TestJointByStarts holds Joint of systematic draws against a walk through all starts.
func TestJointByStarts(t *testing.T) {
	r := rand.New(rand.NewSource(5))
	for range 40 {
		l := manyUnits(3+r.Intn(20), 1, 1, 1)
		sizes := make([]int, len(l))
		for i := range l {
			l[i].Size = 1 + r.Intn(60)
			sizes[i] = l[i].Size
		}
		d := sameTakes(t, api.DesignSystematic, l, r.Intn(len(l)), 0)
		if CheckDesign(d, l) != api.OK {
			continue
		}
		both := make([][]int, len(l))
		for i := range both {
			both[i] = make([]int, len(l))
		}
		for start := range sumOf(sizes) {
			hits, _ := Hits(sizes, d.Takes[0].First, start)
			for i, n := range hits {
				for j, m := range hits {
					both[i][j] += n * m
				}
			}
		}
		for i := range l {
			for j := range l {
				if got, fault := Joint(d, l, i+1, j+1); got != ratioOf(rat(both[i][j], sumOf(sizes))) || fault != api.OK {
					t.Fatal("Joint", sizes, d, i, j, got, both[i][j], fault)
				}
			}
		}
	}
}

// TestJointMost holds Joint where its numbers are greatest.
func TestJointMost(t *testing.T) {
	l := manyUnits(api.MaxUnits, 1, 2, api.MaxSize)
	for _, x := range []struct {
		kind, first, second, a, b int
		want                      string
	}{
		{1, 5000, 0, 1, 5000, "1/1"}, {1, 2, 0, 1, 5000, "1/12497500"}, {2, 5000, 0, 1, 5000, "1/1"}, {2, 2, 0, 1, 2501, "1/2500"}, {2, 2, 0, 1, 2500, "0/1"},
		{3, 2, 2500, 1, 2, "1/1"}, {3, 2, 2500, 1, 3, "1/1"}, {3, 2, 2499, 1, 2, "6245001/6250000"}, {3, 2, 2499, 1, 3, "1249/1250"}, {3, 1, 2500, 1, 2, "0/1"}, {3, 1, 2500, 1, 3, "1/2"},
	} {
		got, fault := Joint(sameTakes(t, x.kind, l, x.first, x.second), l, x.a, x.b)
		is(t, fmt.Sprint(x), show(got, fault), x.want+" 0")
	}
	// Sizes that differ, without a common divisor: the last unit of the first half and the first of the second one.
	l = manyUnits(api.MaxUnits, 1, 1, api.MaxSize)
	l[0].Size--
	got, fault := Joint(sameTakes(t, api.DesignSystematic, l, 2, 0), l, 2500, 5000)
	is(t, "unequal Sizes", show(got, fault), show(ratioOf(rat(1999999, 4999999999)), 0))
	got, fault = Joint(sameTakes(t, api.DesignSystematic, l, 2, 0), l, 2501, 1)
	is(t, "unequal Sizes", show(got, fault), show(ratioOf(rat(1999998, 4999999999)), 0))
}
