package proof

import (
	"cmp"
	"slices"

	"canvass/api"
	"canvass/value"
)

// answeredWorld returns the world of one mixture: given answers, by P2.
func answeredWorld(f api.Form, l []api.Given) (*world, api.Fault) {
	p, fault := planOf(f)
	if fault != api.OK {
		return nil, fault
	}
	m := newMixtures()
	for _, given := range l {
		x := p.named[given.Key.Name]
		if fault := checkGiven(x, given, m); fault != api.OK {
			return nil, fault
		}
		m.add(x.question, []api.Value{given.Value})
	}
	p.leaveOut(m)
	return p.worldOf(m), api.OK
}

// checkGiven has the errors of an answer to a question, which is nil if there is none, behind those that mixtures have already.
func checkGiven(x *entry, given api.Given, m *mixtures) api.Fault {
	switch {
	case x == nil || !x.isQuestion():
		return api.ErrName
	case len(given.Key.Row) > 0:
		return api.ErrForm
	case m.known.has(x.question):
		return api.ErrTwice
	}
	if fault := value.Check(given.Value); fault != api.OK {
		return fault
	}
	if kind := given.Value.Kind; kind != api.Missing && kind != api.Special && kind != x.item.Answer.Kind {
		return api.ErrType
	}
	return api.OK
}

// namesProved returns the names of those items for which something is so in a world of all that they depend on, in order.
func namesProved(f api.Form, isSo func(w *world, x *entry) bool) ([]string, api.Fault) {
	p, fault := planOf(f)
	if fault != api.OK {
		return nil, fault
	}
	proved := map[int]bool{} // by the number of the item
	fault = p.eachProof(func(w *world, x *entry) { proved[x.index] = isSo(w, x) })
	if fault != api.OK {
		return nil, fault
	}
	return p.namesWhere(func(x *entry) bool { return proved[x.index] }), api.OK
}

// eachProof calls do for each item, in some order, with a world of mixtures of all questions on which it and its Only depend. It says ErrLarge if Mix does for one of them.
func (p *plan) eachProof(do func(w *world, x *entry)) api.Fault {
	needs := make([]set, len(p.entries))
	for i, x := range p.entries {
		if p.countMix(x.offers) > api.MaxMix {
			return api.ErrLarge
		}
		needs[i] = x.offers
	}
	eachGroup(needs, func(questions set, members []int) {
		w := p.worldOf(p.mixOf(questions))
		for _, i := range members {
			do(w, p.entries[i])
		}
	})
	return api.OK
}

// eachGroup divides what needs questions into groups, and calls do for each with the questions of a member that needs those of all of them. So few worlds are enough: what mixtures of more questions tell of fewer ones is the same, since values can always be found for further questions.
func eachGroup(needs []set, do func(questions set, members []int)) {
	order := make([]int, len(needs))
	for i := range order {
		order[i] = i
	}
	slices.SortStableFunc(order, func(i, j int) int { return cmp.Compare(needs[j].count(), needs[i].count()) })
	for len(order) > 0 {
		questions := needs[order[0]]
		var members, others []int
		for _, i := range order {
			if needs[i].isWithin(questions) {
				members = append(members, i)
			} else {
				others = append(others, i)
			}
		}
		do(questions, members)
		order = others
	}
}
