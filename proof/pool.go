package proof

import (
	"slices"

	"canvass/api"
)

// maxQuestions is how many questions two forms have at most.
const maxQuestions = 2 * api.MaxItems

// pool is the questions of a form, or of two forms that are compared: those of both with one name are one.
type pool struct {
	numbers   map[string]int   // of questions, by their names
	questions []*entry         // by their numbers
	constants map[string][]int // with which conditions compare a question of the kind Number or Day
}

func newPool() *pool { return &pool{numbers: map[string]int{}, constants: map[string][]int{}} }

// take gives a question its number.
func (p *pool) take(x *entry) {
	n, known := p.numbers[x.item.Name]
	if !known {
		n = len(p.questions)
		p.numbers[x.item.Name] = n
		p.questions = append(p.questions, x)
	}
	x.question = n
}

// gather gathers the constants of a plain condition.
func (p *pool) gather(e api.Expr) {
	for _, arg := range e.Args {
		p.gather(arg)
	}
	if len(e.Args) != 2 {
		return
	}
	for i, arg := range e.Args {
		if other := e.Args[1-i]; arg.Kind == api.XAnswer && other.Kind == api.XConst {
			p.constants[arg.Name] = append(p.constants[arg.Name], other.Value.N)
		}
	}
}

// samplesOf returns the samples of a question (P5). It is called when the pool is complete.
func (p *pool) samplesOf(x *entry) []api.Value {
	if !x.sampled {
		x.samples, x.sampled = x.sample(p.constants[x.item.Name]), true
	}
	return x.samples
}

// valuesOf returns the values that mixtures have for a question: its samples, and Missing, if it can be stuck or has no samples.
func (p *pool) valuesOf(x *entry) []api.Value {
	samples := p.samplesOf(x)
	if x.hasOnly() && x.item.Answer.Need || len(samples) == 0 {
		return append(slices.Clone(samples), api.Value{})
	}
	return samples
}

// countMix returns the number of mixtures of the values of some questions; MaxMix + 1, if there are more than MaxMix.
func (p *pool) countMix(questions set) int {
	n := 1
	for _, question := range questions.numbers() {
		n *= len(p.valuesOf(p.questions[question]))
		if n > api.MaxMix {
			return api.MaxMix + 1
		}
	}
	return n
}

// mixOf returns the mixtures of the values of some questions.
func (p *pool) mixOf(questions set) *mixtures {
	m := newMixtures()
	for _, question := range questions.numbers() {
		m.add(question, p.valuesOf(p.questions[question]))
	}
	return m
}

// leaveOut adds to mixtures the questions that they do not have, with the value Missing.
func (p *pool) leaveOut(m *mixtures) {
	for question := range p.questions {
		if !m.known.has(question) {
			m.add(question, []api.Value{{}})
		}
	}
}
