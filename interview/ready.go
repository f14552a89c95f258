package interview

import (
	"canvass/api"
	"canvass/fresh"
	"canvass/value"
)

// Guide is a form made ready to be gone along. With one, many routes, for whatever seeds, cost no more than they do: no form is checked each time anew.
type Guide struct{ *guide }

// Answers are given answers by their keys.
type Answers map[place]api.Value

// GuideOf returns the guide of a form, or the error of quest.Check for it.
func GuideOf(f api.Form) (Guide, api.Fault) {
	g, fault := guideOf(f)
	if fault != api.OK {
		return Guide{}, fault
	}
	return Guide{g}, api.OK
}

// Blank is quest.Blank for the form of a guide.
func (g Guide) Blank() api.Scene { return fresh.Scene(g.blank) }

// Board returns a board of the cells and loops of the form of a guide, where nothing is bound yet.
func (g Guide) Board() value.Board {
	// These are the cells and loops of a right form, so there is no error.
	board, _ := value.BoardOf(g.blank.Cells, g.blank.Loops)
	return board
}

// Lay makes a board the scene behind a route of its form.
func Lay(route api.Route, board value.Board) {
	board.Clear()
	for _, a := range route.Asked {
		board.Bind(api.Bound{Name: a.Key.Name, Row: a.Key.Row, Value: a.Value, Asked: true})
	}
	for _, rows := range route.Rows {
		board.Set(rows)
	}
}

// AnswersOf returns given answers by their keys, or the errors that they have if they are not sound (I1).
func (g Guide) AnswersOf(given []api.Given) (Answers, api.Fault) {
	return g.answersOf(fresh.List(given, fresh.Given))
}

// RouteOf is the function RouteOf for a seed that CheckSeed accepts and for given answers, of which it has ErrLarge alone.
func (g Guide) RouteOf(seed string, given Answers) (api.Route, api.Fault) {
	return g.routeOf(seed, given, len(given))
}

// DataOf is the function Data for a route of this guide.
func (g Guide) DataOf(route api.Route) []api.Given { return g.sorted(g.dataOf(route)) }

// Listed returns answers in the order of their keys.
func (g Guide) Listed(answers Answers) []api.Given { return g.sorted(answers) }

// Accept is quest.Accept for the form of a guide.
func (g Guide) Accept(question string, v api.Value, offered []int) api.Fault {
	x := g.named[question]
	if x == nil || x.Kind != api.ItemQuestion {
		return api.ErrName
	}
	return g.accept(x, v, offered)
}
