package sample

import (
	"fmt"
	"math/big"
	"math/rand"
	"strings"
	"testing"

	"canvass/api"
)

// frame reads units, separated by commas, as `1 s 0 5`: Id, Stratum, Cluster, Size.
func frame(t *testing.T, text string) []api.Unit {
	t.Helper()
	var out []api.Unit
	for _, word := range strings.Split(text, ",") {
		var u api.Unit
		if _, err := fmt.Sscan(word, &u.Id, &u.Stratum, &u.Cluster, &u.Size); err != nil {
			t.Fatal(word, err)
		}
		out = append(out, u)
	}
	return out
}

// mixed is a frame whose strata and clusters do not stand together.
const mixed = "1 b 3 2, 3 a 1 1, 4 b 0 3, 7 a 1 4, 8 b 3 1, 9 b 0 2, 12 a 0 2, 15 b 10 4, 16 b 10 1, 20 a 0 3, 21 b 3 2"

// manyUnits returns units with the Ids 1, 2, .., in turn of each stratum and each cluster.
func manyUnits(n, strata, clusters, size int) []api.Unit {
	out := make([]api.Unit, n)
	for i := range out {
		out[i] = api.Unit{Id: i + 1, Stratum: fmt.Sprintf("s%02d", i%strata), Cluster: i % clusters, Size: size}
	}
	return out
}

// design reads a design from texts of Takes, as `s 2 0`.
func design(t *testing.T, kind int, takes ...string) api.Design {
	t.Helper()
	d := api.Design{Kind: kind}
	for _, text := range takes {
		var x api.Take
		if _, err := fmt.Sscan(text, &x.Stratum, &x.First, &x.Second); err != nil {
			t.Fatal(text, err)
		}
		d.Takes = append(d.Takes, x)
	}
	return d
}

// sameTakes returns a design with one Take for all strata of a frame.
func sameTakes(t *testing.T, kind int, l []api.Unit, first, second int) api.Design {
	t.Helper()
	strata, fault := Strata(l)
	if fault != api.OK {
		t.Fatal("Strata", fault)
	}
	d := api.Design{Kind: kind}
	for _, s := range strata {
		d.Takes = append(d.Takes, api.Take{Stratum: s.Name, First: first, Second: second})
	}
	return d
}

// show returns a text of any results; Ratios are as 1/2.
func show(l ...any) string {
	var words []string
	for _, x := range l {
		switch y := x.(type) {
		case api.Ratio:
			words = append(words, y.Num+"/"+y.Den)
		case []api.Ratio:
			for _, r := range y {
				words = append(words, show(r))
			}
		case []api.Pick:
			for _, p := range y {
				words = append(words, fmt.Sprint(p.Id, ":", show(p.Chance)))
			}
		case []api.Sample:
			for _, s := range y {
				words = append(words, fmt.Sprint(s.Ids, ":", show(s.Chance)))
			}
		default:
			words = append(words, fmt.Sprint(x))
		}
	}
	return strings.Join(words, " ")
}

func is(t *testing.T, what, got, want string) {
	t.Helper()
	if got != want {
		t.Errorf("%s\ngot  %s\nwant %s", what, got, want)
	}
}

// refuses holds a fault, and that all other results are zero.
func refuses(t *testing.T, what string, want api.Fault, got ...any) {
	t.Helper()
	last := len(got) - 1
	if got[last] != want {
		t.Errorf("%s: fault %v, not %d", what, got[last], want)
	}
	for _, x := range got[:last] {
		switch text := fmt.Sprint(x); text {
		case "[]", "0", "false", "{ }", "{{ } { } { } { } { } { } { }}":
		default:
			t.Errorf("%s: with a fault the result is %.100s", what, text)
		}
	}
}

func rat(num, den int) *big.Rat { return big.NewRat(int64(num), int64(den)) }

func rational(t *testing.T, r api.Ratio) *big.Rat {
	t.Helper()
	x, ok := new(big.Rat).SetString(r.Num + "/" + r.Den)
	if !ok {
		t.Fatal("no ratio", r)
	}
	return x
}

func ratioOf(x *big.Rat) api.Ratio { return api.Ratio{Num: x.Num().String(), Den: x.Denom().String()} }

// randomFrame returns a small frame, whose Ids have gaps.
func randomFrame(r *rand.Rand) []api.Unit {
	out := make([]api.Unit, r.Intn(8))
	strata, clusters, size, id := 1+r.Intn(3), 1+r.Intn(4), 1+r.Intn(4), 0
	for i := range out {
		id += 1 + r.Intn(3)
		out[i] = api.Unit{Id: id, Stratum: string(rune('a' + r.Intn(strata))), Cluster: r.Intn(clusters), Size: 1 + r.Intn(size)}
	}
	return out
}

// randomDesign returns a design that fits a frame.
func randomDesign(t *testing.T, r *rand.Rand, l []api.Unit) api.Design {
	t.Helper()
	strata, _ := Strata(l)
	for {
		d := api.Design{Kind: 1 + r.Intn(3)}
		for _, s := range strata {
			x := api.Take{Stratum: s.Name, First: r.Intn(s.Units + 1)}
			if d.Kind == api.DesignStages {
				x.First, x.Second = r.Intn(s.Clusters+1), 1+r.Intn(2)
			}
			d.Takes = append(d.Takes, x)
		}
		if CheckDesign(d, l) == api.OK {
			return d
		}
	}
}
