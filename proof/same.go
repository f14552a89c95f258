package proof

import (
	"slices"

	"canvass/api"
	"canvass/fresh"
	"canvass/quest"
)

// pair is two plain forms that are compared.
type pair struct {
	*pool
	plans [2]*plan
	needs []set // by the numbers of questions: those on which they depend in one form or in both
}

// Same reports whether two forms ask the same questions; if not, it returns values that tell them apart (P8).
func Same(a, b api.Form) (bool, []api.Given, api.Fault) {
	t, fault := pairOf(a, b)
	if fault != api.OK {
		return false, nil, fault
	}
	hasNoValue := func(x *entry) bool { return len(t.samplesOf(x)) == 0 }
	if slices.ContainsFunc(t.questions, hasNoValue) {
		return true, nil, api.OK
	}
	apart := t.findApart()
	if len(apart) == 0 {
		return true, nil, api.OK
	}
	return false, t.tellApart(apart), api.OK
}

// pairOf returns the pair of two forms, or the fault of Same.
func pairOf(a, b api.Form) (*pair, api.Fault) {
	t := &pair{pool: newPool()}
	for _, f := range []api.Form{a, b} {
		if fault := quest.Check(f); fault != api.OK {
			return nil, fault
		}
	}
	for i, f := range []api.Form{a, b} {
		p, fault := plainPlan(f, t.pool)
		if fault != api.OK {
			return nil, fault
		}
		t.plans[i] = p
	}
	for _, p := range t.plans {
		if slices.ContainsFunc(p.entries, (*entry).hasOnly) {
			return nil, api.ErrKind
		}
	}
	if !t.isComparable() {
		return nil, api.ErrType
	}
	t.join()
	for _, needs := range t.needs {
		if t.countMix(needs) > api.MaxMix {
			return nil, api.ErrLarge
		}
	}
	return t, api.OK
}

// isComparable reports whether what has the name of a question in one form is a question with the same answers in the other one, if it is there.
func (t *pair) isComparable() bool {
	for _, x := range t.plans[0].entries {
		y := t.plans[1].named[x.item.Name]
		if y != nil && (x.isQuestion() != y.isQuestion() || x.isQuestion() && !haveSameAnswer(x, y)) {
			return false
		}
	}
	return true
}

// haveSameAnswer compares what two questions accept.
func haveSameAnswer(x, y *entry) bool {
	a, b := x.item.Answer, y.item.Answer
	sameOption := func(a, b api.Option) bool { return a.Code == b.Code && a.Alone == b.Alone }
	return a.Kind == b.Kind && a.Low == b.Low && a.High == b.High && a.Places == b.Places && a.Need == b.Need &&
		slices.Equal(a.Reasons, b.Reasons) && slices.EqualFunc(x.options, y.options, sameOption)
}

// join finds on which questions each one depends in one form or in both.
func (t *pair) join() {
	for range t.questions {
		t.needs = append(t.needs, emptySet(maxQuestions))
	}
	for _, p := range t.plans {
		for _, x := range p.entries {
			if x.isQuestion() {
				t.needs[x.question] = or(t.needs[x.question], x.needs)
			}
		}
	}
}

// look returns a function that tells the mixtures for which a question is reached in just one of the forms.
func (t *pair) look(m *mixtures) func(question int) set {
	worlds := [2]*world{t.plans[0].worldOf(m), t.plans[1].worldOf(m)}
	return func(question int) set {
		apart := emptySet(m.size)
		for _, w := range worlds {
			if x := w.plan.named[t.questions[question].item.Name]; x != nil {
				apart = unlike(apart, w.reached(x))
			}
		}
		return apart
	}
}

// findApart returns the questions that, for some values, are reached in just one of the forms.
func (t *pair) findApart() []int {
	var apart []int
	eachGroup(t.needs, func(questions set, members []int) {
		apartBy := t.look(t.mixOf(questions))
		for _, question := range members {
			if !apartBy(question).isEmpty() {
				apart = append(apart, question)
			}
		}
	})
	slices.Sort(apart)
	return apart
}

// tellApart returns values by which one of some questions is reached in just one of the forms. If it can, it takes values by which, as long as the others are missing, this is so for no question that depends on more than the values that are returned.
func (t *pair) tellApart(apart []int) []api.Given {
	for _, question := range apart {
		m := t.mixOf(t.needs[question])
		t.leaveOut(m)
		apartBy := t.look(m)
		told := apartBy(question)
		for other := range t.questions {
			if !t.needs[other].isWithin(t.needs[question]) {
				told = minus(told, apartBy(other))
			}
		}
		if mixture := told.first(); mixture >= 0 {
			return t.givens(t.needs[question], m, mixture)
		}
	}
	needs := t.needs[apart[0]]
	m := t.mixOf(needs)
	return t.givens(needs, m, t.look(m)(apart[0]).first())
}

// givens returns the values of some questions in a mixture.
func (t *pair) givens(questions set, m *mixtures, mixture int) []api.Given {
	var out []api.Given
	for _, question := range questions.numbers() {
		out = append(out, api.Given{Key: api.Key{Name: t.questions[question].item.Name}, Value: fresh.Value(m.value(question, mixture))})
	}
	return out
}
