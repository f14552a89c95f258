package sample

import (
	"math/rand"
	"slices"
	"strconv"
	"strings"
	"testing"

	"canvass/api"
	"canvass/value"
)

// TestDraw holds samples that a second program has drawn by the words of the document (S5).
func TestDraw(t *testing.T) {
	l := frame(t, mixed)
	for _, x := range []struct {
		seed  string
		kind  int
		takes [2]string
		want  []int
	}{
		{"", 1, [2]string{"a 2 0", "b 3 0"}, []int{4, 7, 9, 20, 21}}, {"", 2, [2]string{"a 2 0", "b 3 0"}, []int{4, 7, 9, 16, 20}},
		{"", 3, [2]string{"a 1 2", "b 2 1"}, []int{3, 7, 9, 16}}, {"", 3, [2]string{"a 2 1", "b 2 2"}, []int{3, 4, 9, 15, 16, 20}},
		{"x", 1, [2]string{"a 2 0", "b 3 0"}, []int{1, 7, 9, 12, 15}}, {"x", 2, [2]string{"a 2 0", "b 3 0"}, []int{1, 7, 8, 12, 15}},
		{"x", 3, [2]string{"a 1 2", "b 2 1"}, []int{4, 8, 12, 20}}, {"x", 3, [2]string{"a 2 1", "b 2 2"}, []int{1, 4, 7, 8, 9, 20}},
		{"seed 7", 1, [2]string{"a 2 0", "b 3 0"}, []int{3, 4, 7, 8, 15}}, {"seed 7", 2, [2]string{"a 2 0", "b 3 0"}, []int{3, 4, 9, 12, 16}},
		{"seed 7", 3, [2]string{"a 1 2", "b 2 1"}, []int{4, 12, 16, 20}}, {"seed 7", 3, [2]string{"a 2 1", "b 2 2"}, []int{4, 7, 9, 12, 15, 16}},
		{"x", 1, [2]string{"a 0 0", "b 0 0"}, nil}, {"x", 2, [2]string{"a 0 0", "b 0 0"}, nil}, {"x", 3, [2]string{"a 0 1", "b 0 2"}, nil},
		{"x", 1, [2]string{"a 4 0", "b 0 0"}, []int{3, 7, 12, 20}}, {"x", 3, [2]string{"a 0 1", "b 3 2"}, []int{1, 4, 8, 9, 15, 16}},
	} {
		picks, fault := Draw(design(t, x.kind, x.takes[0], x.takes[1]), l, x.seed)
		var got []int
		for _, p := range picks {
			got = append(got, p.Id)
		}
		if !slices.Equal(got, x.want) || fault != api.OK {
			t.Errorf("Draw of %d, %v with %q is %v, %d, not %v", x.kind, x.takes, x.seed, got, fault, x.want)
		}
	}
}

func TestChances(t *testing.T) {
	for _, x := range []struct {
		kind  int
		text  string
		takes []string
		want  string
	}{
		{1, mixed, []string{"a 2 0", "b 3 0"}, "3/7 1/2 3/7 1/2 3/7 3/7 1/2 3/7 3/7 1/2 3/7 0"},
		{2, mixed, []string{"a 2 0", "b 3 0"}, "2/5 1/5 3/5 4/5 1/5 2/5 2/5 4/5 1/5 3/5 2/5 0"},
		{3, mixed, []string{"a 1 1", "b 2 2"}, "4/9 1/4 2/3 1/4 4/9 2/3 1/4 2/3 2/3 1/4 4/9 0"},
		{1, mixed, []string{"a 0 0", "b 7 0"}, "1/1 0/1 1/1 0/1 1/1 1/1 0/1 1/1 1/1 0/1 1/1 0"},
		{3, "1 s 0 1, 2 s 0 2, 3 s 1 3", []string{"s 1 1"}, "1/4 1/4 1/2 0"},
		{3, "1 s 0 1, 2 s 0 2, 3 s 1 4", []string{"s 1 1"}, "3/14 3/14 4/7 0"},
		{2, "1 s 0 3, 2 s 0 3", []string{"s 2 0"}, "1/1 1/1 0"},
		{2, "1 s 0 3, 2 s 0 3", []string{"s 0 0"}, "0/1 0/1 0"},
	} {
		l, d := frame(t, x.text), design(t, x.kind, x.takes...)
		chances, fault := Chances(d, l)
		is(t, x.text, show(chances, fault), x.want)
		// A Pick has the chance of its unit.
		picks, _ := Draw(d, l, "s")
		for _, p := range picks {
			place := slices.IndexFunc(l, func(u api.Unit) bool { return u.Id == p.Id })
			if place < 0 || p.Chance != chances[place] {
				t.Error("Pick", x.text, show([]api.Pick{p}))
			}
		}
	}
	for kind := api.DesignSimple; kind <= api.DesignStages; kind++ {
		chances, fault := Chances(api.Design{Kind: kind}, nil)
		picks, fault2 := Draw(api.Design{Kind: kind}, nil, "x")
		if len(chances)+len(picks) > 0 || fault != api.OK || fault2 != api.OK {
			t.Error("no units", kind, chances, picks)
		}
	}
}

func TestDrawFaults(t *testing.T) {
	l := frame(t, mixed)
	d := design(t, api.DesignSimple, "a 2 0", "b 3 0")
	long := strings.Repeat("x", 100)
	if picks, fault := Draw(d, l, long); len(picks) != 5 || fault != api.OK {
		t.Error("a seed of 100 bytes", picks, fault)
	}
	picks, fault := Draw(d, l, long+"x")
	refuses(t, "a seed of 101 bytes", api.ErrLarge, picks, fault)
	picks, fault = Draw(api.Design{Kind: api.DesignSimple}, nil, long+"x")
	refuses(t, "a seed of 101 bytes, no units", api.ErrLarge, picks, fault)
}

// drawnByRule draws a stratum by the words of S5.
func drawnByRule(kind int, x api.Take, units []api.Unit, seed string) []int {
	var ids []int
	from := func(size func(i int) int, n int) []int {
		sizes := make([]int, n)
		for i := range sizes {
			sizes[i] = size(i)
		}
		stream, _ := value.Stream(seed, 1)
		hits, _ := Hits(sizes, x.First, int(stream[0]%uint64(sumOf(sizes))))
		return hits
	}
	switch kind {
	case api.DesignSimple:
		order, _ := value.Shuffle(seed, len(units))
		for _, n := range order[:x.First] {
			ids = append(ids, units[n].Id)
		}
	case api.DesignSystematic:
		for i, n := range from(func(i int) int { return units[i].Size }, len(units)) {
			if n > 0 {
				ids = append(ids, units[i].Id)
			}
		}
	case api.DesignStages:
		var numbers []int
		members := map[int][]api.Unit{}
		for _, u := range units {
			numbers = append(numbers, u.Cluster)
			members[u.Cluster] = append(members[u.Cluster], u)
		}
		slices.Sort(numbers)
		numbers = slices.Compact(numbers)
		for i, n := range from(func(i int) int {
			size := 0
			for _, u := range members[numbers[i]] {
				size += u.Size
			}
			return size
		}, len(numbers)) {
			if n > 0 {
				l := members[numbers[i]]
				order, _ := value.Shuffle(seed+"."+strconv.Itoa(numbers[i]), len(l))
				for _, n := range order[:x.Second] {
					ids = append(ids, l[n].Id)
				}
			}
		}
	}
	return ids
}

// TestDrawByChance holds Draw against the rule, for small frames.
func TestDrawByChance(t *testing.T) {
	r := rand.New(rand.NewSource(3))
	for range 1000 {
		l := randomFrame(r)
		for i := range l {
			l[i].Cluster *= 1 + 10*r.Intn(2)
		}
		d, seed := randomDesign(t, r, l), strings.Repeat("s", r.Intn(4))
		var want []int
		for _, x := range d.Takes {
			var units []api.Unit
			for _, u := range l {
				if u.Stratum == x.Stratum {
					units = append(units, u)
				}
			}
			want = append(want, drawnByRule(d.Kind, x, units, seed+"."+x.Stratum)...)
		}
		slices.Sort(want)
		picks, fault := Draw(d, l, seed)
		var got []int
		for _, p := range picks {
			got = append(got, p.Id)
		}
		if !slices.Equal(got, want) || fault != api.OK {
			t.Fatal("Draw", d, l, seed, got, want, fault)
		}
	}
}

// TestDrawMost holds draws of the greatest frames.
func TestDrawMost(t *testing.T) {
	l := manyUnits(api.MaxUnits, 1, 50, api.MaxSize)
	for _, x := range []struct{ kind, first, second, want int }{{1, 5000, 0, 5000}, {1, 17, 0, 17}, {2, 5000, 0, 5000}, {2, 17, 0, 17}, {3, 50, 100, 5000}, {3, 7, 3, 21}} {
		picks, fault := Draw(sameTakes(t, x.kind, l, x.first, x.second), l, "most")
		if len(picks) != x.want || fault != api.OK || picks[0].Chance != ratio(x.want, 5000) || !slices.IsSortedFunc(picks, func(a, b api.Pick) int { return a.Id - b.Id }) {
			t.Error("Draw", x, len(picks), fault)
		}
	}
}
