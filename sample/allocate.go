package sample

import (
	"slices"

	"canvass/api"
)

// Allocate divides total among parts by their weights (S2).
func Allocate(weights, least, most []int, total int) ([]int, api.Fault) {
	if fault := checkParts(weights, least, most); fault != api.OK {
		return nil, fault
	}
	if total < sumOf(least) {
		return nil, api.ErrRange
	}
	if total > sumOf(most) {
		return nil, api.ErrFull
	}
	numbers := slices.Clone(least)
	for range total - sumOf(least) {
		numbers[nextPart(weights, numbers, most)]++
	}
	return numbers, api.OK
}

func checkParts(weights, least, most []int) api.Fault {
	if len(weights) != len(least) || len(weights) != len(most) {
		return api.ErrForm
	}
	if len(weights) > api.MaxStrata {
		return api.ErrLarge
	}
	for i, weight := range weights {
		if weight < 0 || weight > api.MaxShares || least[i] < 0 || least[i] > most[i] || most[i] > api.MaxUnits {
			return api.ErrRange
		}
	}
	return api.OK
}

// nextPart returns the part that gets 1 more. There is one that has less than its most.
func nextPart(weights, numbers, most []int) int {
	best := -1
	for i, n := range numbers {
		if n < most[i] && (best < 0 || weights[i]*(2*numbers[best]+1) > weights[best]*(2*n+1)) {
			best = i
		}
	}
	return best
}

func sumOf(l []int) int {
	sum := 0
	for _, n := range l {
		sum += n
	}
	return sum
}
