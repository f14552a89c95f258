package value

import (
	"slices"

	"canvass/api"
	"canvass/fresh"
)

// SightOf returns the sight of cells and loops, or the error that TypeOf has for them.
func SightOf(cells []api.Cell, loops []api.Nest) (Sight, api.Fault) {
	return sightOf(fresh.List(cells, fresh.Cell), fresh.List(loops, fresh.Nest))
}

// Add adds a cell to a sight, or returns the error that TypeOf has for it.
func (s Sight) Add(cell api.Cell) api.Fault {
	if fault := s.addCell(fresh.Cell(cell)); fault != api.OK {
		return fault
	}
	if !s.isPlace(cell.Loops) {
		delete(s.cells, cell.Name)
		return api.ErrNone
	}
	return api.OK
}

// TypeOf is the function TypeOf for the cells and loops of a sight.
func (s Sight) TypeOf(e api.Expr, at []string) (int, api.Fault) {
	if fault := CheckExpr(e); fault != api.OK {
		return 0, fault
	}
	return s.typeOf(e, at)
}

// View is a scene that CheckScene accepts. With one, the values of many expressions cost no more than they do.
type View struct {
	Sight
	source
}

// source is where a view finds what is bound.
type source interface {
	// bound returns a function that tells the Bound for which a cell stands at a row; the zero Bound, if there is none.
	bound(cell api.Cell) func(row []int) api.Bound
	// numbers returns a function that tells the Numbers of a loop for the rows around it.
	numbers(loop api.Nest) func(row []int) []int
	// changes tells how often the source has changed.
	changes() int
}

// still is a source that is a scene.
type still api.Scene

func (s still) bound(cell api.Cell) func(row []int) api.Bound {
	return func(row []int) api.Bound {
		want := api.Bound{Name: cell.Name, Row: row[:len(cell.Loops)]}
		i, found := slices.BinarySearchFunc(s.Bounds, want, compareBounds)
		if !found {
			return api.Bound{}
		}
		return s.Bounds[i]
	}
}

func (s still) numbers(loop api.Nest) func(row []int) []int {
	return func(row []int) []int {
		i, found := slices.BinarySearchFunc(s.Rows, api.Rows{Loop: loop.Name, Row: row}, compareRows)
		if !found {
			return nil
		}
		return s.Rows[i].Numbers
	}
}

func (s still) changes() int { return 0 }

// ViewOf returns the view of a scene, or the error of CheckScene.
func ViewOf(s api.Scene) (View, api.Fault) {
	own := fresh.Scene(s)
	names, fault := sightOfScene(own)
	if fault != api.OK {
		return View{}, fault
	}
	return View{names, still(own)}, api.OK
}

// Eval is the function Eval for the scene of a view.
func (v View) Eval(e api.Expr, at []string, row []int) (api.Value, api.Fault) {
	kind, fault := v.TypeOf(e, at)
	if fault != api.OK {
		return api.Value{}, fault
	}
	return v.toldBy(e, kind, at)(row)
}

// Meaning returns a function that does what Eval does for an expression at a place, without checking it each time anew; or the error of TypeOf.
func (v View) Meaning(e api.Expr, at []string) (func(row []int) (api.Value, api.Fault), api.Fault) {
	kind, fault := v.TypeOf(e, at)
	if fault != api.OK {
		return nil, fault
	}
	return v.toldBy(fresh.Expr(e), kind, slices.Clone(at)), api.OK
}

// toldBy returns a function that tells the value, by V12, of an expression which has a kind at a place.
func (v View) toldBy(e api.Expr, kind int, at []string) func(row []int) (api.Value, api.Fault) {
	meaning := v.meaningOf(e, at)
	return func(row []int) (api.Value, api.Fault) {
		if fault := checkRow(row, at); fault != api.OK {
			return api.Value{}, fault
		}
		value := meaning(row)
		switch {
		case !isMissing(value):
			return fresh.Value(value), api.OK
		case kind == api.Bool:
			return boolean(false), api.OK
		}
		return api.Value{}, api.OK
	}
}
