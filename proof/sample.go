package proof

import (
	"slices"
	"strings"

	"canvass/api"
	"canvass/quest"
)

// unit is how many ten-thousandths 1 has.
const unit = 10000

// sample returns the samples of a question that is compared with some constants.
func (x *entry) sample(constants []int) []api.Value {
	a := x.item.Answer
	var out []api.Value
	switch a.Kind {
	case api.Number, api.Day:
		for _, n := range sampleNumbers(a.Low, a.High, stepOf(a), constants) {
			out = append(out, api.Value{Kind: a.Kind, N: n})
		}
	case api.Text:
		out = append(out, api.Value{Kind: api.Text, S: strings.Repeat("x", a.Low)})
	case api.Choice:
		for _, code := range x.codes {
			out = append(out, api.Value{Kind: api.Choice, N: code})
		}
	case api.Choices:
		out = x.sampleSets()
	}
	for _, reason := range a.Reasons {
		out = append(out, api.Value{Kind: api.Special, N: reason})
	}
	if !a.Need {
		out = append(out, api.Value{})
	}
	return out
}

// stepOf returns the distance of Numbers or Days that a question accepts.
func stepOf(a api.Answer) int {
	if a.Kind == api.Day {
		return 1
	}
	step := unit
	for range a.Places {
		step /= 10
	}
	return step
}

// sampleNumbers returns, of the multiples of step from low to high, the least one, the greatest one, and those at each constant and next to it.
func sampleNumbers(low, high, step int, constants []int) []int {
	least, greatest := upTo(low, step), downTo(high, step)
	if least > greatest {
		return nil
	}
	out := []int{least, greatest}
	for _, c := range constants {
		for _, n := range []int{downTo(c-1, step), c, upTo(c+1, step)} {
			if n >= least && n <= greatest && n%step == 0 {
				out = append(out, n)
			}
		}
	}
	slices.Sort(out)
	return slices.Compact(out)
}

// downTo returns the greatest multiple of step that is not above n.
func downTo(n, step int) int { return n - (n%step+step)%step }

// upTo returns the least multiple of step that is not below n.
func upTo(n, step int) int { return -downTo(-n, step) }

// sampleSets returns all values of the kind Choices that a question accepts if all options are offered.
func (x *entry) sampleSets() []api.Value {
	var out []api.Value
	for mask := range 1 << len(x.codes) {
		v := api.Value{Kind: api.Choices}
		for i, code := range x.codes {
			if mask>>i&1 == 1 {
				v.Set = append(v.Set, code)
			}
		}
		if x.accept(v) == api.OK {
			out = append(out, v)
		}
	}
	return out
}

// accept is quest.Accept for a question if all options are offered.
func (x *entry) accept(v api.Value) api.Fault {
	return quest.AcceptBy(x.item.Answer, x.options, v, x.codes)
}

// codesOf returns the codes of which a value consists.
func codesOf(v api.Value) []int {
	if v.Kind == api.Choice {
		return []int{v.N}
	}
	return v.Set
}

// codesOfList returns the codes of options, increasing.
func codesOfList(options []api.Option) []int {
	out := make([]int, len(options))
	for i, option := range options {
		out[i] = option.Code
	}
	slices.Sort(out)
	return out
}
