package interview

import (
	"math/rand"
	"slices"
	"testing"

	"canvass/api"
	"canvass/quest"
)

// plainInterview is an interview by the chapter's words (I4 to I7).
type plainInterview struct {
	t        *testing.T
	form     api.Form
	seed     string
	given    []api.Given
	route    api.Route
	page     api.Key
	isOn     bool
	minute   int
	finished bool
	journal  []api.Step
	stays    []stay
}

// stay is that an interview was on a page, from one minute to another one.
type stay struct {
	page     api.Key
	from, to int
}

func plainNew(t *testing.T, f api.Form, seed string, minute int) *plainInterview {
	p := &plainInterview{t: t, form: f, seed: seed, minute: minute}
	p.route, _ = plainRouteOf(t, f, seed, nil)
	if len(p.route.Pages) > 0 {
		p.page, p.isOn = p.route.Pages[0], true
		p.stays = []stay{{p.page, minute, minute}}
	}
	return p
}

func (p *plainInterview) pageNumber(page api.Key) int {
	return slices.IndexFunc(p.route.Pages, func(other api.Key) bool { return isAt(page, other) })
}

func (p *plainInterview) isReachable(r api.Route, page api.Key) bool {
	for _, ahead := range r.Pages {
		if isAt(ahead, page) {
			return true
		}
		for _, a := range r.Asked {
			if isAt(a.Page, ahead) && a.Open != api.OK {
				return false
			}
		}
	}
	return false
}

func (p *plainInterview) questions() []api.Asked {
	var out []api.Asked
	for _, a := range p.route.Asked {
		if p.isOn && isAt(a.Page, p.page) {
			out = append(out, a)
		}
	}
	return out
}

func openOf(l []api.Asked) api.Fault {
	for _, a := range l {
		if a.Open != api.OK {
			return a.Open
		}
	}
	return api.OK
}

// with returns given answers with a further one.
func with(l []api.Given, a api.Given) []api.Given {
	out := slices.DeleteFunc(slices.Clone(l), func(b api.Given) bool { return isAt(a.Key, b.Key) })
	if a.Value.Kind == api.Missing {
		return out
	}
	return append(out, a)
}

// step makes a step, and returns its fault.
func (p *plainInterview) step(s api.Step) api.Fault {
	switch {
	case p.finished:
		return api.ErrClosed
	case s.Minute < 0 || s.Minute > api.MaxMinute:
		return api.ErrRange
	case s.Minute < p.minute:
		return api.ErrOrder
	}
	page, isOn := p.page, p.isOn
	if fault := p.act(s); fault != api.OK {
		return fault
	}
	if isOn {
		p.stays[len(p.stays)-1].to = s.Minute
	}
	if p.isOn && !(isOn && isAt(page, p.page)) {
		p.stays = append(p.stays, stay{p.page, s.Minute, s.Minute})
	}
	p.minute = s.Minute
	p.journal = append(p.journal, s)
	return api.OK
}

func (p *plainInterview) act(s api.Step) api.Fault {
	n := p.pageNumber(p.page)
	switch s.Kind {
	case api.StepGive, api.StepChange:
		return p.answer(s)
	case api.StepNext:
		if !p.isOn {
			return api.ErrNone
		}
		if fault := openOf(p.questions()); fault != api.OK {
			return fault
		}
		if n+1 == len(p.route.Pages) {
			return api.ErrNone
		}
		p.page = p.route.Pages[n+1]
	case api.StepBack:
		if !p.isOn || n == 0 {
			return api.ErrNone
		}
		p.page = p.route.Pages[n-1]
	case api.StepJump:
		if p.pageNumber(s.Page) < 0 {
			return api.ErrNone
		}
		if !p.isReachable(p.route, s.Page) {
			return api.ErrState
		}
		p.page = s.Page
	case api.StepFinish:
		if fault := openOf(p.route.Asked); fault != api.OK {
			return fault
		}
		p.finished = true
	}
	return api.OK
}

// answer makes a step Give or Change whose answers are sound.
func (p *plainInterview) answer(s api.Step) api.Fault {
	given, route := p.given, p.route
	for n, a := range s.Given {
		if slices.ContainsFunc(s.Given[:n], func(b api.Given) bool { return isAt(a.Key, b.Key) }) {
			return api.ErrTwice
		}
	}
	for _, a := range s.Given {
		n := slices.IndexFunc(route.Asked, func(b api.Asked) bool { return isAt(a.Key, b.Key) })
		if n < 0 || s.Kind == api.StepGive && !isAt(route.Asked[n].Page, p.page) || s.Kind == api.StepChange && !p.isReachable(route, route.Asked[n].Page) {
			return api.ErrState
		}
		if fault := quest.Accept(p.form, a.Key.Name, a.Value, route.Asked[n].Offered); fault != api.OK {
			return fault
		}
		given = with(given, a)
		route, _ = plainRouteOf(p.t, p.form, p.seed, given)
	}
	p.given, p.route = given, route
	if p.pageNumber(p.page) >= 0 {
		return api.OK
	}
	order := plainOrder(p.form)
	old := p.page
	p.page = route.Pages[0]
	var ahead []api.Key
	for _, page := range route.Pages {
		if order(page, old) < 0 {
			ahead = append(ahead, page)
		}
	}
	if len(ahead) > 0 {
		p.page = slices.MaxFunc(ahead, order)
	}
	return api.OK
}

// hold holds the state of an interview against this one.
func (p *plainInterview) hold(i *Interview) bool {
	order := plainOrder(p.form)
	data := plainData(p.form, p.route)
	beside := slices.DeleteFunc(slices.Clone(p.given), func(a api.Given) bool {
		return slices.ContainsFunc(data, func(b api.Given) bool { return isAt(a.Key, b.Key) })
	})
	slices.SortFunc(beside, func(a, b api.Given) int { return order(a.Key, b.Key) })
	var spent []api.Spent
	for _, s := range p.stays {
		n := slices.IndexFunc(spent, func(other api.Spent) bool { return isAt(other.Page, s.page) })
		if n < 0 {
			n, spent = len(spent), append(spent, api.Spent{Page: s.page})
		}
		spent[n].Minutes += s.to - s.from
	}
	slices.SortFunc(spent, func(a, b api.Spent) int { return order(a.Page, b.Page) })
	done := 0
	for _, page := range p.route.Pages {
		if !slices.ContainsFunc(p.route.Asked, func(a api.Asked) bool { return isAt(a.Page, page) && a.Open != api.OK }) {
			done++
		}
	}
	page, isOn := i.Page()
	nowDone, all := i.Progress()
	return isOn == p.isOn && isAt(page, p.page) && nowDone == done && all == len(p.route.Pages) && i.Finished() == p.finished &&
		sameRoute(i.Route(), p.route) && slices.EqualFunc(i.Questions(), p.questions(), sameAsked) && slices.EqualFunc(i.Data(), data, sameGiven) && slices.EqualFunc(i.Beside(), beside, sameGiven) &&
		slices.EqualFunc(i.Spent(), spent, func(a, b api.Spent) bool { return isAt(a.Page, b.Page) && a.Minutes == b.Minutes }) && slices.EqualFunc(i.Journal(), p.journal, sameStep)
}

// randomStep returns a step that is often possible.
func (p *plainInterview) randomStep(r *rand.Rand) api.Step {
	s := api.Step{Kind: []int{api.StepGive, api.StepGive, api.StepGive, api.StepNext, api.StepNext, api.StepBack, api.StepJump, api.StepChange, api.StepChange, api.StepFinish}[r.Intn(10)], Minute: p.minute + r.Intn(4)}
	if r.Intn(20) == 0 {
		s.Minute = p.minute - 1
	}
	switch s.Kind {
	case api.StepGive:
		for n := r.Intn(4); n > 0; n-- {
			s.Given = append(s.Given, p.randomAnswer(r, p.questions())...)
		}
	case api.StepChange:
		if s.Given = p.randomAnswer(r, p.route.Asked); len(s.Given) == 0 {
			s.Kind = api.StepBack
		}
	case api.StepJump:
		s.Page = key("nobody")
		if n := len(p.route.Pages); n > 0 {
			s.Page = p.route.Pages[r.Intn(n)]
		}
	}
	return s
}

// randomAnswer returns an answer to one of the questions of a list, sometimes to any question; none, if there is none.
func (p *plainInterview) randomAnswer(r *rand.Rand, l []api.Asked) []api.Given {
	l = slices.DeleteFunc(slices.Clone(l), func(a api.Asked) bool { return a.Kind != api.ItemQuestion })
	if all := randomAnswers(r, p.form); (len(l) == 0 || r.Intn(10) == 0) && len(all) > 0 {
		return all[:1]
	}
	if len(l) == 0 {
		return nil
	}
	a := l[r.Intn(len(l))]
	item, _, _ := quest.Find(p.form, a.Key.Name)
	return []api.Given{{Key: a.Key, Value: randomValue(r, &item)}}
}

// TestInterviewsByChance holds interviews against those that the chapter's words make, step by step.
func TestInterviewsByChance(t *testing.T) {
	made, finished := map[int]int{}, 0
	for n := range 250 {
		r := rand.New(rand.NewSource(int64(n)))
		f := randomForm(r)
		p := plainNew(t, f, "x", 10)
		if len(p.route.Asked) > 60 || len(p.route.Pages) == 0 {
			continue
		}
		i, fault := New(f, "x", 10)
		if fault != api.OK || !p.hold(i) {
			t.Fatal("New", n, fault)
		}
		for k := range 40 {
			s := p.randomStep(r)
			if len(p.route.Asked) > 200 || s.Kind == api.StepFinish && k < 30 {
				continue
			}
			before := len(p.journal)
			want := p.step(s)
			if got := makeStep(t, i, s); got != want || !p.hold(i) {
				text, _ := quest.Text(f)
				t.Fatalf("step %d of %d: %v gives %d, not %d\n%s", k, n, s, got, want, text)
			}
			if len(p.journal) > before {
				made[s.Kind]++
			}
		}
		again, at, fault := Replay(f, "x", 10, p.journal)
		if fault != api.OK || at != 0 || !p.hold(again) {
			t.Fatal("Replay", n, at, fault)
		}
		if p.finished {
			finished++
		}
	}
	for kind := api.StepGive; kind <= api.StepFinish; kind++ {
		if made[kind] < 20 {
			t.Error("few steps of a kind", kind, made[kind])
		}
	}
	t.Log(made, finished)
}
