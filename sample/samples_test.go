package sample

import (
	"fmt"
	"maps"
	"math/big"
	"math/rand"
	"slices"
	"testing"

	"canvass/api"
)

func TestSamples(t *testing.T) {
	for _, x := range []struct {
		kind  int
		text  string
		takes []string
		want  string
	}{
		{2, "1 s 0 1, 2 s 0 2, 3 s 1 3", []string{"s 2 0"}, "[1 3]:1/3 [2 3]:2/3 0"},
		{1, "1 s 0 1, 2 s 0 2, 3 s 1 3", []string{"s 2 0"}, "[1 2]:1/3 [1 3]:1/3 [2 3]:1/3 0"},
		{1, "1 s 0 1, 2 s 0 2, 3 s 1 3", []string{"s 0 0"}, "[]:1/1 0"},
		{1, "1 s 0 1, 2 s 0 2, 3 s 1 3", []string{"s 3 0"}, "[1 2 3]:1/1 0"},
		// Two starts hit 1 and 3, two hit 2 and 4: they come once.
		{2, "1 s 0 1, 2 s 0 1, 3 s 0 1, 4 s 0 1", []string{"s 2 0"}, "[1 3]:1/2 [2 4]:1/2 0"},
		{2, "1 s 0 1, 2 s 0 2, 3 s 1 3", []string{"s 0 0"}, "[]:1/1 0"},
		// Different clusters have different numbers of sets.
		{3, "1 s 4 1, 3 s 2 1, 5 s 4 1, 7 s 4 1, 9 s 2 1", []string{"s 1 2"}, "[1 5]:1/5 [1 7]:1/5 [3 9]:2/5 [5 7]:1/5 0"},
		{3, "1 s 4 1, 3 s 2 1, 5 s 4 1, 7 s 4 1, 9 s 2 1", []string{"s 0 2"}, "[]:1/1 0"},
		{3, "1 s 4 1, 3 s 2 1, 5 s 4 1, 9 s 2 1", []string{"s 2 1"}, "[1 3]:1/4 [1 9]:1/4 [3 5]:1/4 [5 9]:1/4 0"},
		// Strata stand in between each other.
		{1, "1 b 0 1, 2 a 0 1, 3 b 0 1, 4 a 0 1", []string{"a 1 0", "b 1 0"}, "[1 2]:1/4 [1 4]:1/4 [2 3]:1/4 [3 4]:1/4 0"},
		{2, "1 b 0 2, 2 a 0 1, 3 b 0 1, 4 a 0 3", []string{"a 1 0", "b 1 0"}, "[1 2]:1/6 [1 4]:1/2 [2 3]:1/12 [3 4]:1/4 0"},
		// Ids are ordered as numbers.
		{1, "9 s 0 1, 10 s 0 1, 100 s 0 1", []string{"s 1 0"}, "[9]:1/3 [10]:1/3 [100]:1/3 0"},
	} {
		l, fault := Samples(design(t, x.kind, x.takes...), frame(t, x.text))
		is(t, fmt.Sprint(x.kind, " ", x.takes, " of ", x.text), show(l, fault), x.want)
	}
	for kind := api.DesignSimple; kind <= api.DesignStages; kind++ {
		l, fault := Samples(api.Design{Kind: kind}, nil)
		is(t, "no units", show(l, fault), "[]:1/1 0")
	}
}

// TestWays holds how the ways are counted, at the bound of MaxSamples (S6).
func TestWays(t *testing.T) {
	sized := func(sizes ...int) []api.Unit {
		l := manyUnits(len(sizes), 1, len(sizes), 1)
		for i := range l {
			l[i].Size = sizes[i]
		}
		return l
	}
	unequal := func(a, b int) []api.Unit { return append(manyUnits(2*b, 2, 1, 1), manyUnits(a+b, 1, 1, 1)[2*b:]...) }
	for _, x := range []struct {
		what                string
		kind, first, second int
		l                   []api.Unit
		want                int // how many samples; -1: ErrLarge
	}{
		{"1 of 5000", 1, 1, 0, manyUnits(5000, 1, 1, 1), 5000}, {"2 of 100", 1, 2, 0, manyUnits(100, 1, 1, 1), 4950}, {"98 of 100", 1, 98, 0, manyUnits(100, 1, 1, 1), 4950}, {"2 of 101", 1, 2, 0, manyUnits(101, 1, 1, 1), -1}, {"99 of 101", 1, 99, 0, manyUnits(101, 1, 1, 1), -1}, {"7 of 14", 1, 7, 0, manyUnits(14, 1, 1, 1), 3432}, {"7 of 15", 1, 7, 0, manyUnits(15, 1, 1, 1), -1}, {"2500 of 5000", 1, 2500, 0, manyUnits(5000, 1, 1, 1), -1}, {"all of 5000", 1, 5000, 0, manyUnits(5000, 1, 1, api.MaxSize), 1}, {"none of 5000", 1, 0, 0, manyUnits(5000, 1, 1, api.MaxSize), 1},
		// Ways of strata are multiplied, and none of them is counted in vain.
		{"50 times 100", 1, 1, 0, unequal(100, 50), 5000}, {"51 times 99", 1, 1, 0, unequal(99, 51), -1}, {"1 of 2, 12 times", 1, 1, 0, manyUnits(24, 12, 1, 1), 4096}, {"1 of 2, 13 times", 1, 1, 0, manyUnits(26, 13, 1, 1), -1}, {"2 of 100, 40 times", 1, 2, 0, manyUnits(4000, 40, 1, 1), -1}, {"all, 40 times", 1, 125, 0, manyUnits(5000, 40, 1, 1), 1},
		// A systematic draw has as many ways as starts, also if they lead to the same sample.
		{"5000 starts", 2, 1, 0, sized(4000, 1000), 2}, {"5001 starts", 2, 1, 0, sized(4001, 1000), -1}, {"5000 starts, none", 2, 0, 0, sized(4000, 1000), 1}, {"5001 starts, none", 2, 0, 0, sized(4001, 1000), -1}, {"all of 2", 2, 2, 0, sized(2500, 2500), 1}, {"all of 2, more starts", 2, 2, 0, sized(2501, 2501), -1}, {"50 and 100 starts", 2, 1, 0, []api.Unit{{Id: 1, Stratum: "a", Size: 50}, {Id: 2, Stratum: "b", Size: 100}}, 1}, {"71 starts, twice", 2, 1, 0, []api.Unit{{Id: 1, Stratum: "a", Size: 71}, {Id: 2, Stratum: "b", Size: 71}}, -1}, {"greatest sizes", 2, 1, 0, manyUnits(5000, 40, 1, api.MaxSize), -1},
		{"5000 units alone", 2, 1, 0, manyUnits(5000, 1, 1, 1), 5000},
		// Of stages: each start has the sets of the clusters that it hits.
		{"100 starts, 50 sets", 3, 1, 1, manyUnits(100, 1, 2, 1), 100}, {"102 starts, 51 sets", 3, 1, 1, manyUnits(102, 1, 2, 1), -1}, {"none of 5000 starts", 3, 0, 1, manyUnits(5000, 1, 2, 1), 1}, {"none of 5001 starts", 3, 0, 1, sized(5000, 1), -1}, {"all of 5000 starts", 3, 1, 5000, manyUnits(5000, 1, 1, 1), 1}, {"14 starts, 7 times 7 sets", 3, 2, 1, manyUnits(14, 1, 2, 1), 49}, {"20 starts, 45 times 45 sets", 3, 2, 2, manyUnits(20, 1, 2, 1), -1}, {"16 starts, 17 times 17 sets", 3, 2, 1, manyUnits(34, 1, 2, 1), -1},
	} {
		l, fault := Samples(waysDesign(t, x.kind, x.l, x.first, x.second), x.l)
		if x.want < 0 {
			refuses(t, x.what, api.ErrLarge, l, fault)
		} else if len(l) != x.want || fault != api.OK {
			t.Error(x.what, len(l), fault)
		}
	}
}

func waysDesign(t *testing.T, kind int, l []api.Unit, first, second int) api.Design {
	t.Helper()
	d := sameTakes(t, kind, l, first, second)
	if fault := CheckDesign(d, l); fault != api.OK {
		t.Fatal("CheckDesign", kind, first, second, fault)
	}
	return d
}

// TestWaysOfUnequalStarts holds the sum over starts where these have different numbers of sets, at the bound of MaxSamples.
func TestWaysOfUnequalStarts(t *testing.T) {
	// The clusters have 70 and n units, and the sizes 70 and n: the ways are 70 * 70 + n * n.
	for n, want := range map[int]int{10: 80, 11: -1} {
		l := manyUnits(70+n, 1, 1, 1)
		for i := range n {
			l[70+i].Cluster = 1
		}
		samples, fault := Samples(sameTakes(t, api.DesignStages, l, 1, 1), l)
		if want < 0 {
			refuses(t, "5021 ways", api.ErrLarge, samples, fault)
		} else if len(samples) != want || fault != api.OK || samples[0].Chance != ratio(1, 80) {
			t.Error("5000 ways", len(samples), fault)
		}
	}
}

// world is what can be drawn: sets of places, as bits, with their chances, and in how many ways.
type world struct {
	chances map[int]*big.Rat
	ways    int
}

func (w *world) add(set int, chance *big.Rat) {
	if w.chances[set] == nil {
		w.chances[set] = new(big.Rat)
	}
	w.chances[set].Add(w.chances[set], chance)
	w.ways++
}

func (w world) times(v world) world {
	out := world{chances: map[int]*big.Rat{}}
	for a, x := range w.chances {
		for b, y := range v.chances {
			out.add(a|b, new(big.Rat).Mul(x, y))
		}
	}
	out.ways = w.ways * v.ways
	return out
}

// subsets returns the sets of so many of some places.
func subsets(places []int, many int) []int {
	var out []int
	for chosen := range 1 << len(places) {
		set, n := 0, 0
		for i, place := range places {
			if chosen>>i&1 == 1 {
				set |= 1 << place
				n++
			}
		}
		if n == many {
			out = append(out, set)
		}
	}
	return out
}

// worldOf lists all ways to draw a stratum of a small frame, by the words of S5 and S6.
func worldOf(kind int, x api.Take, l []api.Unit) world {
	w := world{chances: map[int]*big.Rat{}}
	var places, sizes []int
	var groups [][]int
	byCluster := map[int][]int{}
	for place, u := range l {
		if u.Stratum == x.Stratum {
			places = append(places, place)
			byCluster[u.Cluster] = append(byCluster[u.Cluster], place)
		}
	}
	second := x.Second
	switch kind {
	case api.DesignSimple:
		sets := subsets(places, x.First)
		for _, set := range sets {
			w.add(set, rat(1, len(sets)))
		}
		return w
	case api.DesignSystematic:
		second = 1
		for _, place := range places {
			groups = append(groups, []int{place})
		}
	case api.DesignStages:
		for _, number := range slices.Sorted(maps.Keys(byCluster)) {
			groups = append(groups, byCluster[number])
		}
	}
	for _, group := range groups {
		size := 0
		for _, place := range group {
			size += l[place].Size
		}
		sizes = append(sizes, size)
	}
	for start := range sumOf(sizes) {
		from := world{chances: map[int]*big.Rat{0: rat(1, sumOf(sizes))}, ways: 1}
		for i, n := range hitsByRule(sizes, x.First, start) {
			if n > 0 {
				of, sets := world{chances: map[int]*big.Rat{}}, subsets(groups[i], second)
				for _, set := range sets {
					of.add(set, rat(1, len(sets)))
				}
				from = from.times(of)
			}
		}
		ways := w.ways + from.ways
		for set, chance := range from.chances {
			w.add(set, chance)
		}
		w.ways = ways
	}
	return w
}

// TestSamplesByChance holds Samples, Chances and Joint against all ways to draw small frames.
func TestSamplesByChance(t *testing.T) {
	r := rand.New(rand.NewSource(4))
	for range 1500 {
		l := randomFrame(r)
		d := randomDesign(t, r, l)
		w := world{chances: map[int]*big.Rat{0: rat(1, 1)}, ways: 1}
		for _, x := range d.Takes {
			w = w.times(worldOf(d.Kind, x, l))
		}
		holdSamples(t, d, l, w)
		chances, fault := Chances(d, l)
		if fault != api.OK || len(chances) != len(l) {
			t.Fatal("Chances", d, l, fault)
		}
		for a, u := range l {
			for b, v := range l {
				want := new(big.Rat)
				for set, chance := range w.chances {
					if both := 1<<a | 1<<b; set&both == both {
						want.Add(want, chance)
					}
				}
				if got, fault := Joint(d, l, u.Id, v.Id); got != ratioOf(want) || fault != api.OK {
					t.Fatal("Joint", d, l, u.Id, v.Id, got, want, fault)
				}
				if a == b && chances[a] != ratioOf(want) {
					t.Fatal("Chances", d, l, a, chances[a], want)
				}
			}
		}
	}
}

func holdSamples(t *testing.T, d api.Design, l []api.Unit, w world) {
	t.Helper()
	got, fault := Samples(d, l)
	if w.ways > api.MaxSamples {
		refuses(t, "Samples", api.ErrLarge, got, fault)
		return
	}
	var want []api.Sample
	for set, chance := range w.chances {
		s := api.Sample{Chance: ratioOf(chance)}
		for place, u := range l {
			if set>>place&1 == 1 {
				s.Ids = append(s.Ids, u.Id)
			}
		}
		want = append(want, s)
	}
	slices.SortFunc(want, func(a, b api.Sample) int { return slices.Compare(a.Ids, b.Ids) })
	same := slices.EqualFunc(got, want, func(a, b api.Sample) bool { return slices.Equal(a.Ids, b.Ids) && a.Chance == b.Chance })
	if !same || fault != api.OK {
		t.Fatal("Samples", d, l, show(got), "not", show(want), fault)
	}
}

// TestSamplesMost holds the longest list of the largest samples.
func TestSamplesMost(t *testing.T) {
	for _, x := range []struct{ kind, second int }{{api.DesignSimple, 0}, {api.DesignSystematic, 0}, {api.DesignStages, 1}} {
		l := manyUnits(api.MaxUnits, 1, api.MaxUnits, 1)
		samples, fault := Samples(sameTakes(t, x.kind, l, api.MaxUnits-1, x.second), l)
		if len(samples) != api.MaxSamples || fault != api.OK {
			t.Fatal("Samples", x, len(samples), fault)
		}
		for i, s := range samples {
			// The sample number i is without the unit number MaxUnits - i.
			if len(s.Ids) != api.MaxUnits-1 || slices.Contains(s.Ids, api.MaxUnits-i) || s.Chance != ratio(1, api.MaxUnits) {
				t.Fatal("sample", x, i)
			}
		}
	}
}
