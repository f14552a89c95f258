package sample

import (
	"cmp"
	"slices"

	"canvass/api"
)

// plan is all that can happen to the clusters of a part.
type plan struct {
	part
	hittings []hitting
}

// hitting is clusters that are hit together. Hit: a byte for each cluster of a part, 1 if it is hit. Starts: from how many starts. Sets: how many sets of units can be drawn of them.
type hitting struct {
	hit          string
	starts, sets int
}

// plansOf returns the plans of parts, or ErrLarge if these have more than MaxSamples ways (S6).
func plansOf(parts []part) ([]plan, api.Fault) {
	ways := 1
	plans := make([]plan, len(parts))
	for i, p := range parts {
		// Each start has one way or more.
		if p.sum > api.MaxSamples {
			return nil, api.ErrLarge
		}
		plans[i] = plan{p, p.hittings()}
		ways = capped(ways * plans[i].ways())
		if ways > api.MaxSamples {
			return nil, api.ErrLarge
		}
	}
	return plans, api.OK
}

// capped keeps counts of ways small: how many there are does not matter above MaxSamples.
func capped(ways int) int { return min(ways, api.MaxSamples+1) }

func (p plan) ways() int {
	n := 0
	for _, h := range p.hittings {
		n = capped(n + h.starts*h.sets)
	}
	return n
}

// hittings returns which clusters are hit together. The part has at most MaxSamples starts.
func (p part) hittings() []hitting {
	starts := map[string]int{}
	for start := range p.sum {
		hit := make([]byte, len(p.sizes))
		for i, hits := range hitsOf(p.sizes, p.first, start) {
			hit[i] = byte(hits)
		}
		starts[string(hit)]++
	}
	out := make([]hitting, 0, len(starts))
	for hit, n := range starts {
		out = append(out, hitting{hit, n, p.setsOf(hit)})
	}
	slices.SortFunc(out, func(a, b hitting) int { return cmp.Compare(a.hit, b.hit) })
	return out
}

// setsOf counts the sets of units that can be drawn of the clusters that are hit.
func (p part) setsOf(hit string) int {
	sets := 1
	for i, c := range p.clusters {
		if hit[i] > 0 {
			sets = capped(sets * countSets(len(c.places), p.second))
		}
	}
	return sets
}

// countSets counts the sets of some of so many units.
func countSets(units, some int) int {
	some = min(some, units-some)
	sets := 1
	for n := 1; n <= some; n++ {
		// These are the sets of n out of units - some + n. There are ever more of them, so those of some are too many if these are.
		sets = capped(sets * (units - some + n) / n)
		if sets > api.MaxSamples {
			break
		}
	}
	return sets
}

// lister lists samples. Chosen: by places, the units of the sample at hand. Size: how many units each sample has.
type lister struct {
	units   []api.Unit
	chosen  []bool
	size    int
	samples []api.Sample
}

func listerOf(l []api.Unit, plans []plan) *lister {
	s := &lister{units: l, chosen: make([]bool, len(l))}
	for _, p := range plans {
		s.size += p.first * p.second
	}
	return s
}

// list lists the samples with the units that are chosen and those that plans add. num / den is the chance of the chosen ones; both are at most MaxSamples * MaxSamples, since a part has at least as many ways as it has starts, and as one of its hittings has sets.
func (s *lister) list(plans []plan, num, den int) {
	if len(plans) == 0 {
		s.add(num, den)
		return
	}
	p := plans[0]
	for _, h := range p.hittings {
		open := s.begin(p.part, h.hit)
		s.eachDraw(open, p.second, func() { s.list(plans[1:], num*h.starts, den*p.sum*h.sets) })
		s.end(p.part, h.hit)
	}
}

// begin chooses the units of those clusters, of the ones that are hit, of which all are drawn, and returns the other ones: a step for each unit alone would make long lists slow.
func (s *lister) begin(p part, hit string) [][]int {
	var open [][]int
	for i, c := range p.clusters {
		if hit[i] > 0 && len(c.places) == p.second {
			s.choose(c.places, true)
		} else if hit[i] > 0 {
			open = append(open, c.places)
		}
	}
	return open
}

func (s *lister) end(p part, hit string) {
	for i, c := range p.clusters {
		if hit[i] > 0 {
			s.choose(c.places, false)
		}
	}
}

func (s *lister) choose(places []int, is bool) {
	for _, place := range places {
		s.chosen[place] = is
	}
}

// eachDraw calls then with each set of units chosen that can be drawn of clusters, so many of each.
func (s *lister) eachDraw(clusters [][]int, many int, then func()) {
	if len(clusters) == 0 {
		then()
		return
	}
	s.eachSet(clusters[0], many, func() { s.eachDraw(clusters[1:], many, then) })
}

// eachSet calls then with each set of so many of the places chosen.
func (s *lister) eachSet(places []int, many int, then func()) {
	if many == 0 {
		then()
		return
	}
	for i := range len(places) - many + 1 {
		s.chosen[places[i]] = true
		s.eachSet(places[i+1:], many-1, then)
		s.chosen[places[i]] = false
	}
}

// add adds the sample with the chosen units.
func (s *lister) add(num, den int) {
	ids := make([]int, 0, s.size)
	for place, u := range s.units {
		if s.chosen[place] {
			ids = append(ids, u.Id)
		}
	}
	s.samples = append(s.samples, api.Sample{Ids: ids, Chance: ratio(num, den)})
}
