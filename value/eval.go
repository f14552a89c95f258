package value

import (
	"slices"

	"canvass/api"
)

// Eval returns the value of an expression at a place in a scene (V13).
func Eval(e api.Expr, s api.Scene, at []string, row []int) (api.Value, api.Fault) {
	names, fault := sightOfScene(s)
	if fault != api.OK {
		return api.Value{}, fault
	}
	return View{names, s}.Eval(e, at, row)
}

// meaning is an expression at a place: its value for the numbers of the rows there. It does not keep the row, and its values are not changed.
type meaning func(row []int) api.Value

// meaningOf returns the meaning of an expression which has a kind at a place.
func (v View) meaningOf(e api.Expr, place []string) meaning {
	switch e.Kind {
	case api.XConst:
		return func([]int) api.Value { return e.Value }
	case api.XAnswer:
		bound := v.bound(e.Name)
		return func(row []int) api.Value { return answer(bound(row)) }
	case api.XRow:
		i := slices.Index(place, e.Name)
		return func(row []int) api.Value { return number(row[i] * unit) }
	case api.XOver:
		return v.over(e)
	}
	if isAboutAnswer(e.Op) {
		bound := v.bound(e.Args[0].Name)
		return func(row []int) api.Value { return aboutAnswer(e.Op, bound(row)) }
	}
	args := make([]meaning, len(e.Args))
	for i, arg := range e.Args {
		args[i] = v.meaningOf(arg, place)
	}
	return func(row []int) api.Value {
		values := make([]api.Value, len(args))
		for i, arg := range args {
			values[i] = arg(row)
		}
		return operate(e.Op, values)
	}
}

// bound returns a function that tells the Bound for which a name stands; the zero Bound, if there is none.
func (v View) bound(name string) func(row []int) api.Bound {
	loops := len(v.cells[name].Loops)
	return func(row []int) api.Bound {
		want := api.Bound{Name: name, Row: row[:loops]}
		i, found := slices.BinarySearchFunc(v.scene.Bounds, want, compareBounds)
		if !found {
			return api.Bound{}
		}
		return v.scene.Bounds[i]
	}
}

func (v View) numbers(loop string, row []int) []int {
	i, found := slices.BinarySearchFunc(v.scene.Rows, api.Rows{Loop: loop, Row: row}, compareRows)
	if !found {
		return nil
	}
	return v.scene.Rows[i].Numbers
}

// answer returns the value of a cell, Missing if it is missing.
func answer(bound api.Bound) api.Value {
	if !bound.Asked || bound.Value.Kind == api.Special {
		return api.Value{}
	}
	return bound.Value
}

func aboutAnswer(op int, bound api.Bound) api.Value {
	switch op {
	case api.OpAnswered:
		return boolean(!isMissing(answer(bound)))
	case api.OpAsked:
		return boolean(bound.Asked)
	}
	if bound.Asked && bound.Value.Kind == api.Special {
		return number(bound.Value.N * unit)
	}
	return number(0)
}

// over returns the meaning of an XOver. It depends only on the rows around its loop. These come in order, so it is enough to remember the last value, and aggregates within aggregates over the same rows are not computed for each row anew.
func (v View) over(e api.Expr) meaning {
	loop := v.loops[e.Name]
	arg := v.meaningOf(e.Args[0], within(loop))
	var lastRow []int
	var last api.Value
	known := false
	return func(row []int) api.Value {
		around := row[:len(loop.Loops)]
		if known && slices.Equal(around, lastRow) {
			return last
		}
		inner := append(slices.Clone(around), 0)
		var values []api.Value
		for _, n := range v.numbers(e.Name, around) {
			inner[len(around)] = n
			values = append(values, arg(inner))
		}
		last, lastRow, known = aggregate(e.Op, values), slices.Clone(around), true
		return last
	}
}
