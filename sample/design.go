package sample

import (
	"slices"
	"strconv"

	"canvass/api"
	"canvass/value"
)

// CheckDesign says whether a design fits a frame (S4).
func CheckDesign(d api.Design, l []api.Unit) api.Fault {
	_, fault := partsOf(d, l)
	return fault
}

// part is a stratum with its Take. All kinds of designs are taken as draws in two stages, so that one rule tells their chances: first clusters are drawn systematically by their sizes, then units of each one that is hit. The clusters of DesignSystematic are single units; DesignSimple has one cluster, which is hit from its only start.
type part struct {
	name          string
	clusters      []cluster
	sizes         []int // of the clusters
	sum           int   // of the sizes: how many starts there are
	first, second int   // how many clusters are drawn, and units of each one
}

// cluster is units of a stratum. Suffix: what their seed has behind that of the stratum.
type cluster struct {
	places []int
	suffix string
}

// partsOf returns the parts of a design, in the order of their strata, or the errors of the frame and the design.
func partsOf(d api.Design, l []api.Unit) ([]part, api.Fault) {
	if fault := CheckFrame(l); fault != api.OK {
		return nil, fault
	}
	if d.Kind != api.DesignSimple && d.Kind != api.DesignSystematic && d.Kind != api.DesignStages {
		return nil, api.ErrKind
	}
	strata := strataOf(l)
	if !slices.EqualFunc(d.Takes, strata, func(t api.Take, s group[string]) bool { return t.Stratum == s.key }) {
		return nil, api.ErrForm
	}
	parts := make([]part, len(strata))
	for i, s := range strata {
		t := d.Takes[i]
		if d.Kind != api.DesignStages && t.Second != 0 {
			return nil, api.ErrForm
		}
		parts[i] = partOf(d.Kind, t, l, s)
		if d.Kind == api.DesignStages && t.Second < 1 || !parts[i].isSound() {
			return nil, api.ErrRange
		}
	}
	return parts, api.OK
}

func partOf(kind int, t api.Take, l []api.Unit, s group[string]) part {
	switch kind {
	case api.DesignSimple:
		return part{name: s.key, clusters: []cluster{{places: s.places}}, sizes: []int{1}, sum: 1, first: 1, second: t.First}
	case api.DesignSystematic:
		alone := groupBy(s.places, func(place int) int { return place })
		return stagesOf(l, s.key, alone, t.First, 1, func(int) string { return "" })
	}
	return stagesOf(l, s.key, clustersOf(l, s.places), t.First, t.Second, func(number int) string { return "." + strconv.Itoa(number) })
}

// stagesOf returns a part with some clusters, by the Sizes of their units.
func stagesOf(l []api.Unit, name string, clusters []group[int], first, second int, suffixOf func(key int) string) part {
	p := part{name: name, first: first, second: second}
	for _, c := range clusters {
		size := sizeOf(l, c.places)
		p.clusters = append(p.clusters, cluster{c.places, suffixOf(c.key)})
		p.sizes = append(p.sizes, size)
		p.sum += size
	}
	return p
}

// isSound reports whether there are as many clusters and units as are to be drawn, and whether no cluster would be hit twice.
func (p part) isSound() bool {
	if p.first < 0 || p.first > len(p.clusters) || p.second < 0 {
		return false
	}
	for i, c := range p.clusters {
		if p.first*p.sizes[i] > p.sum || p.second > len(c.places) {
			return false
		}
	}
	return true
}

// The products from here on are at most MaxUnits * MaxUnits * MaxUnits * MaxSize, as those of hitsOf.

// chance returns the chance of each unit of a cluster (S5).
func (p part) chance(i int) api.Ratio {
	return ratio(p.first*p.sizes[i]*p.second, p.sum*len(p.clusters[i].places))
}

// jointWithin returns the chance that two units of a cluster are both drawn (S6).
func (p part) jointWithin(i int) api.Ratio {
	units := len(p.clusters[i].places)
	return ratio(p.first*p.sizes[i]*p.second*(p.second-1), p.sum*units*(units-1))
}

// jointAcross returns the chance that a unit of one cluster and one of another are both drawn (S6).
func (p part) jointAcross(i, j int) api.Ratio {
	starts := startsOfBoth(p.sizes, p.first, i, j)
	return ratio(starts*p.second*p.second, p.sum*len(p.clusters[i].places)*len(p.clusters[j].places))
}

// ratio returns num / den, or 0 if den is 0.
func ratio(num, den int) api.Ratio {
	if den == 0 {
		num, den = 0, 1
	}
	r, _ := value.RatioOf(num, den)
	return r
}

// draw calls found for each unit that is drawn with the seed of a call (S5).
func (p part) draw(seed string, found func(place int)) {
	seed += "." + p.name
	stream, _ := value.Stream(seed, 1)
	start := int(stream[0] % uint64(p.sum))
	for i, hits := range hitsOf(p.sizes, p.first, start) {
		if hits == 0 {
			continue
		}
		places := p.clusters[i].places
		order, _ := value.Shuffle(seed+p.clusters[i].suffix, len(places))
		for _, n := range order[:p.second] {
			found(places[n])
		}
	}
}
