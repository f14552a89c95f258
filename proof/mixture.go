package proof

import "canvass/api"

// mixtures are all ways to give some questions some of their values. They are numbered, the values of the question that was added first changing fastest.
type mixtures struct {
	size   int
	digits map[int]digit // by the number of the question
	known  set           // the questions
}

// digit is what mixtures have of a question: it has a value for stride mixtures, then the next one, and so on, again and again.
type digit struct {
	values []api.Value
	stride int
}

func newMixtures() *mixtures {
	return &mixtures{size: 1, digits: map[int]digit{}, known: emptySet(maxQuestions)}
}

// add adds a question with its values.
func (m *mixtures) add(question int, values []api.Value) {
	m.digits[question] = digit{values, m.size}
	m.known.fill(question, question+1)
	m.size *= len(values)
}

// value returns the value of a question in a mixture.
func (m *mixtures) value(question, mixture int) api.Value {
	d := m.digits[question]
	return d.values[mixture/d.stride%len(d.values)]
}

// where returns the mixtures in which something holds for the value of a question. (There are none if they do not have this question.)
func (m *mixtures) where(question int, holds func(v api.Value) bool) set {
	out := emptySet(m.size)
	for i, v := range m.digits[question].values {
		if holds(v) {
			m.fill(out, question, i)
		}
	}
	return out
}

// with returns the mixtures in which a question has a value, told by its number.
func (m *mixtures) with(question, i int) set {
	out := emptySet(m.size)
	m.fill(out, question, i)
	return out
}

func (m *mixtures) fill(s set, question, i int) {
	d := m.digits[question]
	for from := i * d.stride; from < m.size; from += len(d.values) * d.stride {
		s.fill(from, from+d.stride)
	}
}
