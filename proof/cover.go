package proof

import (
	"slices"

	"canvass/api"
)

// cover is a list of answers that is being made, and what they cover.
type cover struct {
	plan    *plan
	reached map[int]bool // items, by their numbers
	chosen  map[pick]bool
	lists   [][]api.Given
}

// pick is an option of a question.
type pick struct{ question, code int }

// Cover returns lists of possible answers that together reach all items that are not dead, and choose all options that can be chosen (P7).
func Cover(f api.Form) ([][]api.Given, api.Fault) {
	p, fault := planOf(f)
	if fault != api.OK {
		return nil, fault
	}
	c := &cover{plan: p, reached: map[int]bool{}, chosen: map[pick]bool{}}
	fault = p.eachProof(func(w *world, x *entry) {
		c.reach(w, x)
		if x.isCoded() {
			c.choose(w, x)
		}
	})
	if fault != api.OK {
		return nil, fault
	}
	return c.lists, api.OK
}

// reach adds answers that reach an item, if there are some and they are needed.
func (c *cover) reach(w *world, x *entry) {
	if mixture := w.reachable(x).first(); mixture >= 0 && !c.reached[x.index] {
		c.add(valuesAt(w, x, mixture))
	}
}

// choose adds answers that choose options of a question, where there are some and they are needed.
func (c *cover) choose(w *world, x *entry) {
	offered := w.offered(x)
	for _, v := range c.plan.samplesOf(x) {
		if !c.isNew(x, v) {
			continue
		}
		if mixture := and(w.reachable(x), w.haveAll(v, offered)).first(); mixture >= 0 {
			fixed := valuesAt(w, x, mixture)
			fixed[x.question] = v
			c.add(fixed)
		}
	}
}

// valuesAt returns the values, in a mixture, of the questions on which an item and its Only depend.
func valuesAt(w *world, x *entry, mixture int) map[int]api.Value {
	values := map[int]api.Value{}
	for _, question := range x.offers.numbers() {
		values[question] = w.mix.value(question, mixture)
	}
	return values
}

// isNew reports whether a value chooses an option of a question that was never chosen.
func (c *cover) isNew(x *entry, v api.Value) bool {
	return slices.ContainsFunc(codesOf(v), func(code int) bool { return !c.chosen[pick{x.question, code}] })
}

// add adds answers of which some values are fixed, and finds permitted ones for the other questions. The fixed ones are permitted, since they bring those on which their questions depend.
func (c *cover) add(fixed map[int]api.Value) {
	m := newMixtures()
	w := newWorld(c.plan, m)
	for _, x := range c.plan.entries {
		if x.isQuestion() {
			v, isFixed := fixed[x.question]
			if !isFixed {
				v = c.further(w, x)
			}
			m.add(x.question, []api.Value{v})
		}
		w.visit(x)
		if w.reached(x).isEmpty() {
			continue
		}
		c.reached[x.index] = true
		if x.isQuestion() {
			for _, code := range codesOf(m.value(x.question, 0)) {
				c.chosen[pick{x.question, code}] = true
			}
		}
	}
	c.lists = append(c.lists, w.givens(m.known, 0))
}

// further returns a permitted value for the next question of a world of one mixture. It prefers one with an option that was never chosen, so that few lists cover all.
func (c *cover) further(w *world, x *entry) api.Value {
	offered := w.offered(x)
	var permitted []api.Value
	for _, v := range c.plan.samplesOf(x) {
		if !w.haveAll(v, offered).isEmpty() {
			permitted = append(permitted, v)
		}
	}
	if len(permitted) == 0 {
		return api.Value{}
	}
	i := slices.IndexFunc(permitted, func(v api.Value) bool { return c.isNew(x, v) })
	return permitted[max(i, 0)]
}
