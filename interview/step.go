package interview

import (
	"maps"
	"slices"

	"canvass/api"
	"canvass/fresh"
)

// Give gives answers to questions of the page at hand (I5).
func (i *Interview) Give(given []api.Given, minute int) api.Fault {
	return i.step(api.Step{Kind: api.StepGive, Given: given, Minute: minute}, func() api.Fault {
		return i.give(given, func(_ api.Route, page api.Key) bool { return i.isOn && i.placeOf(page) == i.page })
	})
}

// Change gives one answer anywhere (I5).
func (i *Interview) Change(given api.Given, minute int) api.Fault {
	l := []api.Given{given}
	return i.step(api.Step{Kind: api.StepChange, Given: l, Minute: minute}, func() api.Fault {
		return i.give(l, isReachable)
	})
}

// Next goes to the page behind the one at hand (I6).
func (i *Interview) Next(minute int) api.Fault {
	return i.step(api.Step{Kind: api.StepNext, Minute: minute}, func() api.Fault {
		if !i.isOn {
			return api.ErrNone
		}
		if fault := firstOpen(i.onPage()); fault != api.OK {
			return fault
		}
		return i.goTo(i.pageNumber() + 1)
	})
}

// Back goes to the page ahead of the one at hand (I6).
func (i *Interview) Back(minute int) api.Fault {
	return i.step(api.Step{Kind: api.StepBack, Minute: minute}, func() api.Fault {
		if !i.isOn {
			return api.ErrNone
		}
		return i.goTo(i.pageNumber() - 1)
	})
}

// Jump goes to a page (I6).
func (i *Interview) Jump(page api.Key, minute int) api.Fault {
	return i.step(api.Step{Kind: api.StepJump, Page: page, Minute: minute}, func() api.Fault {
		n := numberOf(i.route, page)
		if n >= 0 && !isReachable(i.route, page) {
			return api.ErrState
		}
		return i.goTo(n)
	})
}

// Finish finishes the interview (I6).
func (i *Interview) Finish(minute int) api.Fault {
	return i.step(api.Step{Kind: api.StepFinish, Minute: minute}, func() api.Fault {
		fault := firstOpen(i.route.Asked)
		i.finished = fault == api.OK
		return fault
	})
}

// step makes a step, if there is no error of all steps: act changes the interview, or returns an error and changes nothing.
func (i *Interview) step(s api.Step, act func() api.Fault) api.Fault {
	switch {
	case i.finished:
		return api.ErrClosed
	case !isMinute(s.Minute):
		return api.ErrRange
	case s.Minute < i.minute:
		return api.ErrOrder
	case len(i.journal) >= api.MaxSteps:
		return api.ErrLarge
	}
	wasOn, page := i.isOn, i.page
	if fault := act(); fault != api.OK {
		return fault
	}
	if wasOn {
		i.spent[page] += s.Minute - i.minute
	}
	i.minute = s.Minute
	i.journal = append(i.journal, fresh.Step(s))
	return api.OK
}

func isMinute(minute int) bool { return minute >= 0 && minute <= api.MaxMinute }

// checkStep says whether a step has the form of one (I7).
func checkStep(s api.Step) api.Fault {
	if s.Kind < api.StepGive || s.Kind > api.StepFinish {
		return api.ErrKind
	}
	hasGiven := s.Kind == api.StepGive || s.Kind == api.StepChange
	if !hasGiven && len(s.Given) > 0 || s.Kind == api.StepChange && len(s.Given) != 1 || s.Kind != api.StepJump && !isAt(s.Page, api.Key{}) {
		return api.ErrForm
	}
	return api.OK
}

// replay makes a step that checkStep accepts.
func (i *Interview) replay(s api.Step) api.Fault {
	switch s.Kind {
	case api.StepGive:
		return i.Give(s.Given, s.Minute)
	case api.StepNext:
		return i.Next(s.Minute)
	case api.StepBack:
		return i.Back(s.Minute)
	case api.StepJump:
		return i.Jump(s.Page, s.Minute)
	case api.StepChange:
		return i.Change(s.Given[0], s.Minute)
	}
	return i.Finish(s.Minute)
}

// give gives answers one after the other, for questions that the route then has on a page where they may be given (I5).
func (i *Interview) give(l []api.Given, mayGive func(route api.Route, page api.Key) bool) api.Fault {
	if _, fault := i.answersOf(l); fault != api.OK {
		return fault
	}
	given, route := maps.Clone(i.given), i.route
	for _, a := range l {
		n := slices.IndexFunc(route.Asked, func(b api.Asked) bool { return isAt(a.Key, b.Key) })
		if n < 0 || !mayGive(route, route.Asked[n].Page) {
			return api.ErrState
		}
		if fault := i.accept(i.named[a.Key.Name], a.Value, route.Asked[n].Offered); fault != api.OK {
			return fault
		}
		given[i.placeOf(a.Key)] = fresh.Value(a.Value)
		if a.Value.Kind == api.Missing {
			delete(given, i.placeOf(a.Key))
		}
		next, fault := i.routeOf(i.seed, given, len(route.Asked))
		if fault != api.OK {
			return fault
		}
		route = next
	}
	i.given = given
	i.follow(route)
	return api.OK
}

// follow makes a route the one of the interview, which then is on a page of it, if it has pages (I6).
func (i *Interview) follow(route api.Route) {
	last := -1
	var best place
	for n, key := range route.Pages {
		page := i.placeOf(key)
		if i.isOn && page.compare(i.page) <= 0 && (last < 0 || page.compare(best) > 0) {
			last, best = n, page
		}
	}
	i.route, i.isOn = route, false
	i.goTo(max(last, 0))
}

// goTo goes to a page of the route; ErrNone if there is no page with this number.
func (i *Interview) goTo(n int) api.Fault {
	if n < 0 || n >= len(i.route.Pages) {
		return api.ErrNone
	}
	i.isOn, i.page = true, i.placeOf(i.route.Pages[n])
	i.spent[i.page] += 0
	return api.OK
}

// pageNumber returns the number of the page at hand.
func (i *Interview) pageNumber() int { return numberOf(i.route, i.keyOf(i.page)) }

// onPage returns what is asked on the page at hand.
func (i *Interview) onPage() []api.Asked {
	var out []api.Asked
	for _, a := range i.route.Asked {
		if a.Page.Name != "" && i.isOn && i.placeOf(a.Page) == i.page {
			out = append(out, a)
		}
	}
	return out
}

// numberOf returns the number of a page of a route; -1 if it has no such page.
func numberOf(route api.Route, page api.Key) int {
	return slices.IndexFunc(route.Pages, func(other api.Key) bool { return isAt(page, other) })
}

// firstOpen returns the first Open of some elements that is an error.
func firstOpen(l []api.Asked) api.Fault {
	for _, a := range l {
		if a.Open != api.OK {
			return a.Open
		}
	}
	return api.OK
}

// isReachable reports whether nothing is Open on the pages ahead of one (I4). What is asked first stands on the page that comes first.
func isReachable(route api.Route, page api.Key) bool {
	n := slices.IndexFunc(route.Asked, func(a api.Asked) bool { return a.Open != api.OK })
	return n < 0 || numberOf(route, route.Asked[n].Page) >= numberOf(route, page)
}
