package proof

import (
	"canvass/api"
	"canvass/fresh"
	"canvass/quest"
	"canvass/value"
)

// world is what mixtures of answers make of the items of a form. It looks at all mixtures together: a set tells in which of them something is so.
type world struct {
	plan      *plan
	mix       *mixtures
	all, none set
	states    []state // by the numbers of items in the order
	ended     set     // where an end was reached
	possible  set     // where each question of the mixtures that is reached has a permitted value
}

// state is what becomes of an item. open: where the item directly around it is reached, and no end ahead of it is. isTrue: where it is a computed value that is reached and true.
type state struct{ open, reached, isTrue set }

// newWorld returns a world before its first item.
func newWorld(p *plan, m *mixtures) *world {
	w := &world{plan: p, mix: m, all: emptySet(m.size), none: emptySet(m.size)}
	w.all.fill(0, m.size)
	w.ended, w.possible = w.none, w.all
	return w
}

// worldOf returns the world of mixtures behind its last item. What it tells of an item is right if the mixtures have all questions on which this depends; but they need not have others.
func (p *plan) worldOf(m *mixtures) *world {
	w := newWorld(p, m)
	for _, x := range p.entries {
		w.visit(x)
	}
	return w
}

// visit goes to the next item, by P2 and P3. An item that depends on other questions than those of the mixtures is left out.
func (w *world) visit(x *entry) {
	s := state{w.none, w.none, w.none}
	if x.needs.isWithin(w.mix.known) {
		s.open = minus(w.all, w.ended)
		if x.around != nil {
			s.open = and(s.open, w.reached(x.around))
		}
		s.reached = and(s.open, w.areTrue(x.item.If, 0))
	}
	switch x.item.Kind {
	case api.ItemEnd:
		w.ended = or(w.ended, s.reached)
	case api.ItemCompute:
		s.isTrue = and(s.reached, w.areTrue(x.item.Compute, 0))
	case api.ItemQuestion:
		if w.mix.known.has(x.question) {
			w.possible = minus(w.possible, minus(s.reached, w.permitted(x)))
		}
	}
	w.states = append(w.states, s)
}

// reached returns the mixtures that reach an item.
func (w *world) reached(x *entry) set { return w.states[x.index].reached }

// reachable returns the possible mixtures that reach an item.
func (w *world) reachable(x *entry) set { return and(w.possible, w.reached(x)) }

// either returns all mixtures, or none.
func (w *world) either(is bool) set {
	if is {
		return w.all
	}
	return w.none
}

// areTrue returns the mixtures for which all of some conditions are true, where a code stands for `option`.
func (w *world) areTrue(conditions []api.Expr, option int) set {
	out := w.all
	for _, e := range conditions {
		out = and(out, w.isTrue(e, option))
	}
	return out
}

// isTrue is areTrue for one condition.
func (w *world) isTrue(e api.Expr, option int) set {
	switch {
	case e.Kind == api.XConst:
		return w.either(e.Value.N == 1)
	case e.Op == api.OpNot:
		return minus(w.all, w.isTrue(e.Args[0], option))
	case e.Op == api.OpAnd:
		return w.areTrue(e.Args, option)
	case e.Op == api.OpOr:
		out := w.none
		for _, arg := range e.Args {
			out = or(out, w.isTrue(arg, option))
		}
		return out
	}
	return w.isTrueOf(e, option)
}

// isTrueOf is isTrue for a condition about one cell.
func (w *world) isTrueOf(e api.Expr, option int) set {
	isTrueFor := func(v api.Value) bool { return holds(e, api.Bound{Value: v, Asked: true}) }
	name := value.Names(e)[0]
	if name == quest.OptionName {
		return w.either(isTrueFor(api.Value{Kind: api.Choice, N: option}))
	}
	x := w.plan.named[name]
	return or(and(w.reached(x), w.whereCell(x, isTrueFor)), minus(w.either(holds(e, api.Bound{})), w.reached(x)))
}

// whereCell returns the mixtures in which something holds for the value of a cell, if it is reached.
func (w *world) whereCell(x *entry, holds func(v api.Value) bool) set {
	if !x.isCompute() {
		return w.mix.where(x.question, holds)
	}
	isTrue := w.states[x.index].isTrue
	return or(and(w.either(holds(boolean(1))), isTrue), minus(w.either(holds(boolean(0))), isTrue))
}

func boolean(n int) api.Value { return api.Value{Kind: api.Bool, N: n} }

// offered returns the mixtures in which a question offers the options of its list, by their codes.
func (w *world) offered(x *entry) map[int]set {
	out := map[int]set{}
	for _, option := range x.options {
		out[option.Code] = w.areTrue(x.item.Answer.Only, option.Code)
	}
	return out
}

// permitted returns the mixtures whose value of a question is permitted, if it is reached.
func (w *world) permitted(x *entry) set {
	offered := w.offered(x)
	out := w.none
	for i, v := range w.mix.digits[x.question].values {
		out = or(out, and(w.mix.with(x.question, i), w.permits(x, v, offered)))
	}
	return out
}

// permits returns the mixtures in which a value is permitted for a question, if it is reached.
func (w *world) permits(x *entry, v api.Value, offered map[int]set) set {
	switch x.accept(v) {
	case api.OK:
		return w.haveAll(v, offered)
	case api.ErrMissing:
		return w.stuck(x, offered)
	}
	return w.none
}

// haveAll returns the mixtures in which all codes of a value are offered.
func (w *world) haveAll(v api.Value, offered map[int]set) set {
	out := w.all
	for _, code := range codesOf(v) {
		out = and(out, offered[code])
	}
	return out
}

// stuck returns the mixtures in which a question is stuck, if it is reached.
func (w *world) stuck(x *entry, offered map[int]set) set {
	out := w.all
	for _, v := range w.plan.samplesOf(x) {
		if out.isEmpty() {
			break
		}
		out = minus(out, w.haveAll(v, offered))
	}
	return out
}

// givens returns what a mixture gives to those of some questions that it reaches.
func (w *world) givens(questions set, mixture int) []api.Given {
	var out []api.Given
	for _, x := range w.plan.entries {
		if x.isQuestion() && questions.has(x.question) && w.reached(x).has(mixture) {
			out = append(out, api.Given{Key: api.Key{Name: x.item.Name}, Value: fresh.Value(w.mix.value(x.question, mixture))})
		}
	}
	return out
}
