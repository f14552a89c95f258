package proof

import (
	"canvass/api"
	"canvass/quest"
	"canvass/value"
)

// plan is a plain form whose items are told by where they stand.
type plan struct {
	*pool
	entries []*entry // in the order of F1
	named   map[string]*entry
}

// entry is an item where it stands.
type entry struct {
	item     api.Item
	around   *entry       // the item directly around it; nil, if there is none
	index    int          // its number in the order
	question int          // the number of a question in the pool
	options  []api.Option // of the list of a question
	codes    []int        // of its options, increasing
	samples  []api.Value  // of a question (P5), if they are known
	sampled  bool         // they are known
	needs    set          // the questions on which it depends (P4)
	offers   set          // the same, where its Only counts as a condition of its own (P5)
	spreads  set          // the questions on which everything depends in whose conditions it is named
}

// planOf returns the plan of a form, or the fault of quest.Check or of Plain.
func planOf(f api.Form) (*plan, api.Fault) {
	if fault := quest.Check(f); fault != api.OK {
		return nil, fault
	}
	return plainPlan(f, newPool())
}

// plainPlan returns the plan of a form that quest.Check accepts, or the fault of Plain. Its questions come into a pool.
func plainPlan(f api.Form, questions *pool) (*plan, api.Fault) {
	p := &plan{pool: questions, named: map[string]*entry{}}
	p.enter(f.Items, nil)
	lists := map[string][]api.Option{}
	for _, list := range f.Lists {
		lists[list.Name] = list.Options
	}
	for _, x := range p.entries {
		if x.isQuestion() {
			x.options = lists[x.item.Answer.List]
			x.codes = codesOfList(x.options)
			p.take(x)
		}
	}
	if !p.isPlain() {
		return nil, api.ErrKind
	}
	p.connect()
	for _, x := range p.entries {
		x.eachCondition(p.gather)
	}
	return p, api.OK
}

// findEntry returns the plan of a form, and the item with a name.
func findEntry(f api.Form, name string) (*plan, *entry, api.Fault) {
	p, fault := planOf(f)
	if fault != api.OK {
		return nil, nil, fault
	}
	if p.named[name] == nil {
		return nil, nil, api.ErrName
	}
	return p, p.named[name], api.OK
}

// enter gathers items that are directly within an item, or in the form itself.
func (p *plan) enter(items []api.Item, around *entry) {
	for _, item := range items {
		x := &entry{item: item, around: around, index: len(p.entries)}
		p.entries = append(p.entries, x)
		p.named[item.Name] = x
		p.enter(item.Items, x)
	}
}

func (x *entry) isQuestion() bool { return x.item.Kind == api.ItemQuestion }

func (x *entry) isCompute() bool { return x.item.Kind == api.ItemCompute }

// isCoded reports whether it is a question whose answers consist of codes.
func (x *entry) isCoded() bool {
	return x.item.Answer.Kind == api.Choice || x.item.Answer.Kind == api.Choices
}

// hasOnly reports whether it is a question that may offer just some of its options.
func (x *entry) hasOnly() bool { return len(x.item.Answer.Only) > 0 }

// eachCondition goes through the conditions of an item.
func (x *entry) eachCondition(do func(e api.Expr)) {
	for _, l := range [][]api.Expr{x.item.If, x.item.Answer.Only, x.item.Compute} {
		for _, e := range l {
			do(e)
		}
	}
}

// connect finds on which questions items depend. What conditions name stands ahead of their item, so it is connected already.
func (p *plan) connect() {
	ends := emptySet(maxQuestions) // what the ends need that were met
	for _, x := range p.entries {
		x.needs = or(ends, p.spread(x.item.If))
		if x.around != nil {
			x.needs = or(x.needs, x.around.needs)
		}
		x.offers = or(x.needs, p.spread(x.item.Answer.Only))
		x.spreads = or(x.offers, p.spread(x.item.Compute))
		switch x.item.Kind {
		case api.ItemQuestion:
			x.spreads.fill(x.question, x.question+1)
		case api.ItemEnd:
			ends = x.needs
		}
	}
}

// spread returns the questions on which everything depends that has some conditions.
func (p *plan) spread(conditions []api.Expr) set {
	out := emptySet(maxQuestions)
	for _, e := range conditions {
		for _, name := range value.Names(e) {
			if name != quest.OptionName {
				out = or(out, p.named[name].spreads)
			}
		}
	}
	return out
}

// namesWhere returns the names of those items for which something is so, in order.
func (p *plan) namesWhere(isSo func(x *entry) bool) []string {
	var names []string
	for _, x := range p.entries {
		if isSo(x) {
			names = append(names, x.item.Name)
		}
	}
	return names
}
