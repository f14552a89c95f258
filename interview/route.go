package interview

import (
	"cmp"
	"maps"
	"slices"
	"strings"

	"canvass/api"
	"canvass/fresh"
)

// trip is a way along a form.
type trip struct {
	seed  string
	given map[place]api.Value
	route api.Route
	row   []int   // at hand
	page  api.Key // at hand; zero outside of pages
	fault api.Fault
}

// routeOf returns the route for a seed and given answers, or its error ErrLarge (I2). room is how many elements Asked may be expected to have.
func (g *guide) routeOf(seed string, given map[place]api.Value, room int) (api.Route, api.Fault) {
	g.board.Clear()
	t := &trip{seed: seed, given: given, route: api.Route{Asked: make([]api.Asked, 0, min(room, api.MaxRoute))}}
	g.start(t)
	if t.fault != api.OK {
		return api.Route{}, t.fault
	}
	slices.SortFunc(t.route.Rows, func(a, b api.Rows) int {
		return cmp.Or(strings.Compare(a.Loop, b.Loop), slices.Compare(a.Row, b.Row))
	})
	return t.route, api.OK
}

// ask returns what the route has of a cell at hand, but for its value and what follows from it.
func (t *trip) ask(x *entry) api.Asked {
	return api.Asked{Key: keyAt(x, t.row), Page: fresh.Key(t.page), Kind: x.Kind}
}

// bind binds the value of a cell to its key.
func (g *guide) bind(a api.Asked) {
	g.board.Bind(api.Bound{Name: a.Key.Name, Row: a.Key.Row, Value: a.Value, Asked: true})
}

// add adds an element to Asked, and reports whether the route goes on.
func (t *trip) add(a api.Asked) bool {
	if len(t.route.Asked) == api.MaxRoute {
		t.fault = api.ErrLarge
		return false
	}
	t.route.Asked = append(t.route.Asked, a)
	return true
}

// addRows adds Rows likewise.
func (t *trip) addRows(rows api.Rows) bool {
	if len(t.route.Rows) == api.MaxBounds {
		t.fault = api.ErrLarge
		return false
	}
	t.route.Rows = append(t.route.Rows, rows)
	return true
}

// dataOf returns the data of a route by their places.
func (g *guide) dataOf(route api.Route) map[place]api.Value {
	data := map[place]api.Value{}
	for _, a := range route.Asked {
		if a.Kind == api.ItemQuestion && a.Value.Kind != api.Missing {
			data[g.placeOf(a.Key)] = a.Value
		}
	}
	return data
}

// sorted returns answers in the order of their keys.
func (g *guide) sorted(answers map[place]api.Value) []api.Given {
	var out []api.Given
	for _, at := range slices.SortedFunc(maps.Keys(answers), place.compare) {
		out = append(out, api.Given{Key: g.keyOf(at), Value: fresh.Value(answers[at])})
	}
	return out
}

// sceneOf returns the scene behind a route, whose Rows it keeps.
func (g *guide) sceneOf(route api.Route) api.Scene {
	scene := fresh.Scene(g.blank)
	for _, a := range route.Asked {
		scene.Bounds = append(scene.Bounds, api.Bound{Name: a.Key.Name, Row: a.Key.Row, Value: a.Value, Asked: true})
	}
	slices.SortFunc(scene.Bounds, func(a, b api.Bound) int {
		return cmp.Or(strings.Compare(a.Name, b.Name), slices.Compare(a.Row, b.Row))
	})
	scene.Rows = route.Rows
	return scene
}
