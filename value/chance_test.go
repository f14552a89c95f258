package value

import (
	"slices"
	"strings"
	"testing"

	"canvass/api"
)

func TestStream(t *testing.T) {
	for _, x := range []struct {
		seed string
		want []uint64
	}{
		{"", []uint64{14087677454934409008, 1156539639830188822, 6107907394010225435}},
		{"seed", []uint64{359285151353829869, 2762501745979095204, 843223797297297566}},
		{"a|b.1 \x7f", []uint64{17298650403521032900, 6554918347759932367}},
		{"\xff\x00", []uint64{13492247737745450571, 18109789294577990505}},
		{"seed", nil},
	} {
		if got, fault := Stream(x.seed, len(x.want)); !slices.Equal(got, x.want) || fault != api.OK {
			t.Errorf("Stream(%q) is %d, %d, not %d", x.seed, got, fault, x.want)
		}
	}
}

func TestShuffle(t *testing.T) {
	for _, x := range []struct {
		seed string
		want []int
	}{
		{"seed", []int{5, 0, 7, 6, 8, 1, 3, 4, 2}}, {"", []int{1, 0, 4, 2, 3}}, {"x", []int{0, 1}}, {"x", []int{0}}, {"x", nil},
	} {
		if got, fault := Shuffle(x.seed, len(x.want)); !slices.Equal(got, x.want) || fault != api.OK {
			t.Errorf("Shuffle(%q, %d) is %d, %d, not %d", x.seed, len(x.want), got, fault, x.want)
		}
	}
	got, fault := Shuffle("all", api.MaxDraws)
	slices.Sort(got)
	for i, n := range got {
		if n != i {
			t.Fatal("Shuffle is not an order", i, n)
		}
	}
	if len(got) != api.MaxDraws || fault != api.OK {
		t.Error("Shuffle of the greatest number", len(got), fault)
	}
}

func TestDrawsOutOfRange(t *testing.T) {
	for _, n := range []int{-1, api.MaxDraws + 1, -1 << 63, 1<<63 - 1} {
		if got, fault := Stream("seed", n); len(got) != 0 || fault != api.ErrRange {
			t.Errorf("Stream of %d: %d", n, fault)
		}
		if got, fault := Shuffle("seed", n); len(got) != 0 || fault != api.ErrRange {
			t.Errorf("Shuffle of %d: %d", n, fault)
		}
	}
	if got, fault := Stream(strings.Repeat("seed", 1000), api.MaxDraws); len(got) != api.MaxDraws || fault != api.OK {
		t.Error("Stream of the greatest number", len(got), fault)
	}
}
