package value

import (
	"canvass/api"
	"canvass/fresh"
)

// SightOf returns the sight of cells and loops, or the error that TypeOf has for them.
func SightOf(cells []api.Cell, loops []api.Nest) (Sight, api.Fault) {
	return sightOf(fresh.List(cells, fresh.Cell), fresh.List(loops, fresh.Nest))
}

// Add adds a cell to a sight, or returns the error that TypeOf has for it.
func (s Sight) Add(cell api.Cell) api.Fault {
	if fault := s.addCell(fresh.Cell(cell)); fault != api.OK {
		return fault
	}
	if !s.isPlace(cell.Loops) {
		delete(s.cells, cell.Name)
		return api.ErrNone
	}
	return api.OK
}

// TypeOf is the function TypeOf for the cells and loops of a sight.
func (s Sight) TypeOf(e api.Expr, at []string) (int, api.Fault) {
	if fault := CheckExpr(e); fault != api.OK {
		return 0, fault
	}
	return s.typeOf(e, at)
}

// View is a scene that CheckScene accepts. With one, the values of many expressions cost no more than they do.
type View struct {
	Sight
	scene api.Scene
}

// ViewOf returns the view of a scene, or the error of CheckScene.
func ViewOf(s api.Scene) (View, api.Fault) {
	own := fresh.Scene(s)
	names, fault := sightOfScene(own)
	if fault != api.OK {
		return View{}, fault
	}
	return View{names, own}, api.OK
}

// Eval is the function Eval for the scene of a view.
func (v View) Eval(e api.Expr, at []string, row []int) (api.Value, api.Fault) {
	kind, fault := v.TypeOf(e, at)
	if fault != api.OK {
		return api.Value{}, fault
	}
	if fault := checkRow(row, at); fault != api.OK {
		return api.Value{}, fault
	}
	value := v.meaningOf(e, at)(row)
	switch {
	case !isMissing(value):
		return fresh.Value(value), api.OK
	case kind == api.Bool:
		return boolean(false), api.OK
	}
	return api.Value{}, api.OK
}
