package field

import (
	"slices"

	"canvass/api"
	"canvass/interview"
)

// book is what a set of events says (L4), so kept that an event behind all others can be added.
type book struct {
	*plan
	lost         map[int]int // Last of each device that is written off
	refused      int
	cases        map[int]*file
	permits      map[int]*permit
	granted      []*permit    // all permits
	strayCases   map[int]bool // numbers of cases that events are for and that do not exist
	strayPermits map[int]bool
	filled       []int
}

// file is what there is of a case.
type file struct {
	created    int // the Number of the EvCreate that counts
	seed       string
	device     int
	answers    interview.Answers // of its EvAnswers, without those taken back
	completion *record           // the EvComplete that counts; nil: none
}

// permit is what there is of a permit.
type permit struct {
	number, cell, device int
	isReturned           bool
	isTried              bool // an EvComplete of its device has it
	isUsed               bool // an EvComplete that counts has it
}

// bookOf returns what events, in the order, say. It goes through them several times, as what is told ahead can depend on what comes behind.
func (p *plan) bookOf(l []*record) *book {
	b := &book{plan: p, lost: map[int]int{}, cases: map[int]*file{}, permits: map[int]*permit{}, strayCases: map[int]bool{}, strayPermits: map[int]bool{}, filled: make([]int, len(p.targets))}
	for _, e := range l {
		b.writeOff(e)
	}
	var kept []*record
	for _, e := range l {
		if b.isRefused(e) {
			b.refused++
		} else {
			kept = append(kept, e)
		}
	}
	for _, note := range []func(e *record){b.open, b.tell, b.count} {
		for _, e := range kept {
			note(e)
		}
	}
	return b
}

// add adds an event that comes behind all others, and reports whether this changes nothing of what they say; otherwise the book is to be made anew.
func (b *book) add(e *record) bool {
	switch {
	case b.isRefused(e):
		b.refused++
		return true
	case b.changesOthers(e):
		return false
	}
	b.open(e)
	b.tell(e)
	b.count(e)
	return true
}

// changesOthers reports whether an event that comes behind all others may change what these say.
func (b *book) changesOthers(e *record) bool {
	switch e.Kind {
	case api.EvCreate:
		return b.strayCases[e.Case]
	case api.EvGrant:
		return b.strayPermits[e.Permit]
	case api.EvReturn:
		own := b.permitOf(e)
		return own != nil && own.isUsed
	}
	return e.Kind == api.EvWriteOff
}

// writeOff notes which devices are written off.
func (b *book) writeOff(e *record) {
	if e.Kind == api.EvWriteOff && !b.isLost(e.To) {
		b.lost[e.To] = e.Last
	}
}

func (b *book) isLost(device int) bool {
	_, isLost := b.lost[device]
	return isLost
}

func (b *book) isRefused(e *record) bool {
	last, isLost := b.lost[e.Device]
	return isLost && e.Number > last
}

// open notes which cases and permits exist.
func (b *book) open(e *record) {
	switch {
	case e.Kind == api.EvCreate && b.cases[e.Case] == nil:
		b.cases[e.Case] = &file{created: e.Number, seed: e.Seed, answers: interview.Answers{}}
	case e.Kind == api.EvGrant && b.permits[e.Permit] == nil:
		b.permits[e.Permit] = &permit{number: e.Permit, cell: e.Cell, device: e.To}
		b.granted = append(b.granted, b.permits[e.Permit])
	}
}

// tell notes what is said of cases and permits, but for completions that count.
func (b *book) tell(e *record) {
	switch e.Kind {
	case api.EvCreate, api.EvAssign:
		if c := b.caseOf(e); c != nil && (e.Kind == api.EvAssign || c.created == e.Number) {
			c.device = e.To
		}
	case api.EvAnswer:
		if c := b.caseOf(e); c != nil {
			answer, _ := b.AnswersOf(e.Given)
			c.answers = with(c.answers, answer)
		}
	case api.EvComplete:
		if own := b.permitOf(e); own != nil {
			own.isTried = true
		}
	case api.EvReturn:
		if own := b.permitOf(e); own != nil {
			own.isReturned = true
		}
	}
}

// with adds answers to others, of which a Missing takes one back.
func with(answers, more interview.Answers) interview.Answers {
	for at, v := range more {
		if v.Kind == api.Missing {
			delete(answers, at)
		} else {
			answers[at] = v
		}
	}
	return answers
}

// caseOf returns the case that an event is for; nil if it does not exist.
func (b *book) caseOf(e *record) *file {
	if b.cases[e.Case] == nil {
		b.strayCases[e.Case] = true
	}
	return b.cases[e.Case]
}

// permitOf returns the permit that an event has; nil if there is none, or it is of another device.
func (b *book) permitOf(e *record) *permit {
	own := b.permits[e.Permit]
	if own == nil {
		b.strayPermits[e.Permit] = true
	}
	if own == nil || own.device != e.Device {
		return nil
	}
	return own
}

// count notes an EvComplete, if it counts.
func (b *book) count(e *record) {
	if e.Kind != api.EvComplete {
		return
	}
	c, own := b.caseOf(e), b.permitOf(e)
	if c == nil || c.completion != nil {
		return
	}
	if e.Cell >= 0 && (own == nil || own.cell != e.Cell || own.isUsed || own.isReturned) {
		return
	}
	if !b.isRight(e, c.seed) {
		return
	}
	c.completion = e
	if e.Cell >= 0 {
		own.isUsed = true
		b.filled[e.Cell]++
	}
}

// isRight reports whether an EvComplete for a case with a seed has all data of a route on which nothing is open, and the cell of these.
func (p *plan) isRight(e *record, seed string) bool {
	if !e.isJudged {
		answers, _ := p.AnswersOf(e.Given)
		route, fault := p.RouteOf(seed, answers)
		e.isJudged = true
		e.isRight = fault == api.OK && firstOpen(route) == api.OK && slices.EqualFunc(p.DataOf(route), e.Given, sameGiven) && p.cellOf(route) == e.Cell
	}
	return e.isRight
}

// firstOpen returns the Open of the first element of a route that has one.
func firstOpen(route api.Route) api.Fault {
	for _, a := range route.Asked {
		if a.Open != api.OK {
			return a.Open
		}
	}
	return api.OK
}
