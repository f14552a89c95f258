package sample

import (
	"cmp"
	"maps"
	"slices"

	"canvass/api"
	"canvass/value"
)

// CheckFrame validates a frame (S1).
func CheckFrame(l []api.Unit) api.Fault {
	if len(l) > api.MaxUnits {
		return api.ErrLarge
	}
	names := map[string]bool{}
	last := 0
	for _, u := range l {
		if fault := checkUnit(u, last); fault != api.OK {
			return fault
		}
		last = u.Id
		names[u.Stratum] = true
	}
	if len(names) > api.MaxStrata {
		return api.ErrLarge
	}
	return api.OK
}

// checkUnit has the errors of a unit behind the one with the Id last.
func checkUnit(u api.Unit, last int) api.Fault {
	switch {
	case u.Id < 1:
		return api.ErrRange
	case u.Id <= last:
		return api.ErrOrder
	case !value.IsName(u.Stratum):
		return api.ErrName
	case u.Cluster < 0 || u.Cluster > api.MaxCluster || u.Size < 1 || u.Size > api.MaxSize:
		return api.ErrRange
	}
	return api.OK
}

// Strata returns the strata of a frame (S1).
func Strata(l []api.Unit) ([]api.Stratum, api.Fault) {
	if fault := CheckFrame(l); fault != api.OK {
		return nil, fault
	}
	var out []api.Stratum
	for _, s := range strataOf(l) {
		out = append(out, api.Stratum{Name: s.key, Units: len(s.places), Clusters: len(clustersOf(l, s.places)), Size: sizeOf(l, s.places)})
	}
	return out, api.OK
}

// group is units that have something in common, the key: their places in the frame, increasing.
type group[K cmp.Ordered] struct {
	key    K
	places []int
}

// groupBy divides units by their keys. The groups are in the order of these.
func groupBy[K cmp.Ordered](places []int, keyOf func(place int) K) []group[K] {
	byKey := map[K][]int{}
	for _, place := range places {
		key := keyOf(place)
		byKey[key] = append(byKey[key], place)
	}
	out := make([]group[K], 0, len(byKey))
	for _, key := range slices.Sorted(maps.Keys(byKey)) {
		out = append(out, group[K]{key, byKey[key]})
	}
	return out
}

func strataOf(l []api.Unit) []group[string] {
	places := make([]int, len(l))
	for place := range places {
		places[place] = place
	}
	return groupBy(places, func(place int) string { return l[place].Stratum })
}

// clustersOf returns the clusters of the units of a stratum.
func clustersOf(l []api.Unit, places []int) []group[int] {
	return groupBy(places, func(place int) int { return l[place].Cluster })
}

func sizeOf(l []api.Unit, places []int) int {
	sum := 0
	for _, place := range places {
		sum += l[place].Size
	}
	return sum
}
