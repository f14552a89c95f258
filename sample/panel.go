package sample

import "canvass/api"

// CheckRotation validates a rotation (S7).
func CheckRotation(r api.Rotation) api.Fault {
	if r.In < 1 || r.In > api.MaxWave || r.Out < 0 || r.Out > api.MaxWave || r.Again < 0 || r.Again > api.MaxWave {
		return api.ErrRange
	}
	if r.Again == 0 && r.Out != 0 {
		return api.ErrForm
	}
	return api.OK
}

// Groups returns the groups that are in a wave (S7).
func Groups(r api.Rotation, wave int) ([]int, api.Fault) {
	if fault := CheckRotation(r); fault != api.OK {
		return nil, fault
	}
	if wave < 1 || wave > api.MaxWave {
		return nil, api.ErrRange
	}
	return groupsIn(r, wave), api.OK
}

func groupsIn(r api.Rotation, wave int) []int {
	var out []int
	for group := 1; group <= wave; group++ {
		if isIn(r, group, wave) {
			out = append(out, group)
		}
	}
	return out
}

// isIn reports whether a group is in a wave, which is not ahead of its first one.
func isIn(r api.Rotation, group, wave int) bool {
	since := wave - group
	again := since - r.In - r.Out
	return since < r.In || again >= 0 && again < r.Again
}

// Overlap returns which part of the groups of a wave is in a later one (S7).
func Overlap(r api.Rotation, wave, later int) (api.Ratio, api.Fault) {
	if fault := CheckRotation(r); fault != api.OK {
		return api.Ratio{}, fault
	}
	if wave < 1 || wave > later || later > api.MaxWave {
		return api.Ratio{}, api.ErrRange
	}
	groups, both := groupsIn(r, wave), 0
	for _, group := range groups {
		if isIn(r, group, later) {
			both++
		}
	}
	return ratio(both, len(groups)), api.OK
}
