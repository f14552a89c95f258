package weight

import (
	"fmt"
	"testing"

	"canvass/api"
)

// TestReplicates holds W8.
func TestReplicates(t *testing.T) {
	for _, x := range []struct{ what, people, want string }{
		{"nobody", "", "0"},
		{"one part", "1, 2", "0"},
		{"two parts", "1 - 0 0 0, 3 - 0 0 1", "0 0 [0 6] 0 1 [2 0] 0"},
		{"three parts, in order", "1 - 0 5 9, 2 - 0 5 3, 1/3 - 0 5 7, 4 - 0 5 3", "5 3 [3/2 0 1/2 0] 5 7 [3/2 3 0 6] 5 9 [0 3 1/2 6] 0"},
		{"two layers, in order", "1 - 0 2 1, 1 - 0 1 1, 1 - 0 2 2, 1 - 0 1 2", "1 1 [1 0 1 2] 1 2 [1 2 1 0] 2 1 [0 1 2 1] 2 2 [2 1 0 1] 0"},
		{"a layer with one part stays", "1 - 0 2 1, 7/2 - 0 1 1, 1 - 0 2 2", "2 1 [0 7/2 2] 2 2 [2 7/2 0] 0"},
		{"layers with one part alone", "1 - 0 0 1, 1 - 0 1 2, 1 - 0 2 3", "0"},
		{"the last numbers", "1 - 0 200 200, 1 - 0 200 0", "200 0 [2 0] 200 200 [0 2] 0"},
		{"Class does not matter", "1 - 1 0 0, 1 - 2 0 0", "0"},
		{"long weights", "999999999999 - 0 0 0, 1/999999999999 - 0 0 1, 1 - 0 0 2", "0 0 [0 1/666666666666 3/2] 0 1 [2999999999997/2 0 3/2] 0 2 [2999999999997/2 1/666666666666 0] 0"},
	} {
		got, fault := Replicates(peopleIn(t, x.people))
		is(t, x.what, show(got, fault), x.want)
	}
	got, fault := Replicates(peopleIn(t, "1 - 0 3 7, 2/3 - 0 3 8"))
	is(t, "all of it", fmt.Sprintf("%+v %d", got, fault), "[{Layer:3 Part:7 Weights:[{Num:0 Den:1} {Num:4 Den:3}]} {Layer:3 Part:8 Weights:[{Num:2 Den:1} {Num:0 Den:1}]}] 0")
}

// layered returns people with the weight 1, one for each part of layers with so many parts.
func layered(layers ...int) []api.Person {
	var out []api.Person
	for layer, parts := range layers {
		for part := range parts {
			out = append(out, api.Person{Weight: api.Ratio{Num: "1", Den: "1"}, Layer: layer, Part: part})
		}
	}
	return out
}

// TestManyReplicates holds MaxReplicates for all functions that have replicates (W8, W9).
func TestManyReplicates(t *testing.T) {
	ones := make([]int, 140)
	for i := range ones {
		ones[i] = 1
	}
	for _, x := range []struct {
		what   string
		layers []int
		want   api.Fault
	}{
		{"60 parts", []int{60}, api.OK},
		{"61 parts", []int{61}, api.ErrLarge},
		{"60 parts of three layers", []int{20, 38, 2}, api.OK},
		{"61 parts of three layers", []int{20, 39, 2}, api.ErrLarge},
		{"60 parts, and layers with one part", append(append([]int{59 - 57}, ones...), 58), api.OK},
		{"61 parts, and layers with one part", append(append([]int{59 - 57}, ones...), 59), api.ErrLarge},
	} {
		l := layered(x.layers...)
		values := make([]int, len(l))
		for i := range values {
			values[i] = i
		}
		got, fault := Replicates(l)
		refuses(t, x.what, x.want, got, fault)
		total, fault := TotalVariance(l, values)
		refuses(t, x.what+", of the total", x.want, total, fault)
		mean, fault := MeanVariance(l, values)
		refuses(t, x.what+", of the mean", x.want, mean, fault)
		total, fault = Total(l, values)
		refuses(t, x.what+" do not matter for Total", api.OK, total, fault)
		mean, fault = Mean(l, values)
		refuses(t, x.what+" do not matter for Mean", api.OK, mean, fault)
	}
	l := layered(61)
	l[3].Weight = parts("0")
	got, fault := Replicates(l)
	refuses(t, "an error of people comes first", api.ErrRange, got, fault)
}
