package interview

import (
	"canvass/api"
	"canvass/fresh"
	"canvass/quest"
)

func (g *guide) question(x *entry) visit {
	offered, unmet := g.offered(x), g.unmet(x)
	return func(t *trip) bool {
		a := t.ask(x)
		a.Offered = offered(t)
		if v := t.given[placeAt(x, t.row)]; g.accept(x, v, a.Offered) == api.OK {
			a.Value = fresh.Value(v)
		}
		g.bind(a)
		hard, soft := unmet(t.row)
		a.Soft = soft
		switch {
		case a.Value.Kind == api.Missing && g.accept(x, a.Value, a.Offered) != api.OK:
			a.Open = api.ErrMissing
		case hard:
			a.Open = api.ErrCheck
		}
		return t.add(a)
	}
}

// accept is quest.Accept.
func (g *guide) accept(x *entry, v api.Value, offered []int) api.Fault {
	return quest.AcceptBy(x.Answer, g.lists[x.Answer.List], v, offered)
}

// offered returns a function that tells the codes of the options that a question offers.
func (g *guide) offered(x *entry) func(t *trip) []int {
	if x.Answer.Kind != api.Choice && x.Answer.Kind != api.Choices {
		return func(*trip) []int { return nil }
	}
	options := g.lists[x.Answer.List]
	isOffered := func(row []int, code int) bool { return true }
	if len(x.Answer.Only) > 0 {
		only := g.isTrue(x.Answer.Only[0], x.loops)
		isOffered = func(row []int, code int) bool {
			g.board.Bind(api.Bound{Name: quest.OptionName, Value: api.Value{Kind: api.Choice, N: code}, Asked: true})
			return only(row)
		}
	}
	return func(t *trip) []int {
		codes, _ := quest.OptionsBy(x.Item, options, t.seed, t.row, func(code int) bool { return isOffered(t.row, code) })
		return codes
	}
}

// unmet returns a function that tells whether a check without Soft is not met, and the numbers of the checks with Soft that are not.
func (g *guide) unmet(x *entry) func(row []int) (hard bool, soft []int) {
	checks := make([]func(row []int) bool, len(x.Answer.Checks))
	for n, check := range x.Answer.Checks {
		checks[n] = g.isTrue(check.Must, x.loops)
	}
	return func(row []int) (hard bool, soft []int) {
		for n, isMet := range checks {
			switch {
			case isMet(row):
			case x.Answer.Checks[n].Soft:
				soft = append(soft, n)
			default:
				hard = true
			}
		}
		return hard, soft
	}
}
