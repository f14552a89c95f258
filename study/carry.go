package study

import (
	"slices"

	"canvass/api"
	"canvass/fresh"
	"canvass/quest"
)

// lostNone says that an answer is not lost.
const lostNone = 0

// carry returns the answers of the new form for sound ones of the old form, and those that are lost (T10).
func (c *change) carry(given []api.Given) ([]api.Given, []api.Lost) {
	var carried []api.Given
	var lost []api.Lost
	for _, g := range given {
		next, kind := c.carryOne(g)
		if kind == lostNone {
			carried = append(carried, next)
		} else {
			lost = append(lost, api.Lost{Key: fresh.Key(g.Key), Kind: kind})
		}
	}
	return carried, lost
}

// carryOne returns what becomes of an answer, or why it is lost.
func (c *change) carryOne(g api.Given) (api.Given, int) {
	x := c.from.question(g.Key.Name)
	y := c.leads(x)
	switch {
	case y == nil:
		return api.Given{}, api.LostQuestion
	case y.Kind != x.Kind:
		return api.Given{}, api.LostKind
	case !slices.Equal(x.Loops, y.Loops):
		return api.Given{}, api.LostPlace
	}
	next := fresh.Given(g)
	next.Key.Name = y.Name
	if next.Value.Kind == api.Missing {
		return next, lostNone
	}
	value, isMapped := c.mapped(x, y, g.Value)
	if !isMapped {
		return api.Given{}, api.LostOption
	}
	if quest.AcceptBy(y.item.Answer, y.options, value, y.codes()) != api.OK {
		return api.Given{}, api.LostValue
	}
	next.Value = value
	return next, lostNone
}

// leads returns the question to which an old one leads; nil: there is none.
func (c *change) leads(x *variable) *variable {
	if m, isMapped := c.maps[x.Name]; isMapped {
		return c.to.question(m.To)
	}
	return c.to.question(x.Name)
}

// mapped returns a value with the codes of the new list, and reports whether there is one.
func (c *change) mapped(x, y *variable, v api.Value) (api.Value, bool) {
	out := fresh.Value(v)
	if v.Kind == api.Choice {
		out.N = c.code(x, y, v.N)
		return out, out.N != 0
	}
	for i, code := range v.Set {
		out.Set[i] = c.code(x, y, code)
	}
	slices.Sort(out.Set)
	return out, !slices.Contains(out.Set, 0) && len(slices.Compact(slices.Clone(out.Set))) == len(v.Set)
}

// code returns the code in the new list for one in the old list; 0: it has none.
func (c *change) code(x, y *variable, code int) int {
	for _, move := range c.maps[x.Name].Codes {
		if move.From == code {
			return move.To
		}
	}
	before, isOld := x.option(code)
	after, isNew := y.option(code)
	if !isOld || !isNew || !slices.Equal(before.Phrase, after.Phrase) {
		return 0
	}
	return code
}

// codes returns the codes of all options of a question.
func (x *variable) codes() []int {
	var out []int
	for _, o := range x.options {
		out = append(out, o.Code)
	}
	return out
}
