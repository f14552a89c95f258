package weight

import (
	"cmp"
	"slices"

	"canvass/api"
	"canvass/whole"
)

// part is the people of a layer that replicates leave out together, by their numbers in the list.
type part struct {
	layer, number int
	people        []int
}

// layersOf returns the parts of each layer, both in order. A layer with one part has no replicates (W8).
func layersOf(l []api.Person) [][]part {
	return grouped(partsOf(l), func(a, b part) bool { return a.layer == b.layer })
}

// partsOf returns the parts of all layers in order.
func partsOf(l []api.Person) []part {
	order := make([]int, len(l))
	for i := range order {
		order[i] = i
	}
	slices.SortStableFunc(order, func(a, b int) int {
		return cmp.Or(cmp.Compare(l[a].Layer, l[b].Layer), cmp.Compare(l[a].Part, l[b].Part))
	})
	var out []part
	for _, people := range grouped(order, func(a, b int) bool { return l[a].Layer == l[b].Layer && l[a].Part == l[b].Part }) {
		first := l[people[0]]
		out = append(out, part{first.Layer, first.Part, people})
	}
	return out
}

// grouped divides a list into runs of elements that belong together.
func grouped[T any](l []T, together func(a, b T) bool) [][]T {
	var out [][]T
	first := 0
	for i := range l {
		if i+1 == len(l) || !together(l[i], l[i+1]) {
			out = append(out, l[first:i+1])
			first = i + 1
		}
	}
	return out
}

// layersFor returns the layers of people, or ErrLarge if there would be more than MaxReplicates.
func layersFor(l []api.Person) ([][]part, api.Fault) {
	layers, count := layersOf(l), 0
	for _, layer := range layers {
		if len(layer) > 1 {
			count += len(layer)
		}
	}
	if count > api.MaxReplicates {
		return nil, api.ErrLarge
	}
	return layers, api.OK
}

// replicatesOf returns the replicates of a layer with at least two parts.
func replicatesOf(l []api.Person, weights []whole.Fraction, layer []part) ([]api.Replicate, api.Fault) {
	all := make([]api.Ratio, len(l)) // with the greater weights in the whole layer
	for i, p := range l {
		all[i] = p.Weight
	}
	more := whole.Over(whole.Of(len(layer)), whole.Of(len(layer)-1))
	for _, p := range layer {
		for _, i := range p.people {
			r, fault := RatioOf(weights[i].Times(more))
			if fault != api.OK {
				return nil, fault
			}
			all[i] = r
		}
	}
	out := make([]api.Replicate, len(layer))
	for number, p := range layer {
		list := slices.Clone(all)
		for _, i := range p.people {
			list[i] = api.Ratio{Num: "0", Den: "1"}
		}
		out[number] = api.Replicate{Layer: p.layer, Part: p.number, Weights: list}
	}
	return out, api.OK
}
