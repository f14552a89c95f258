package value

import (
	"slices"

	"canvass/api"
)

// Eval returns the value of an expression at a place in a scene (V13).
func Eval(e api.Expr, s api.Scene, at []string, row []int) (api.Value, api.Fault) {
	names, fault := sightOfScene(s)
	if fault != api.OK {
		return api.Value{}, fault
	}
	return View{names, still(s)}.Eval(e, at, row)
}

// meaning is an expression at a place: its value for the numbers of the rows there. It does not keep the row, and its values are not changed.
type meaning func(row []int) api.Value

// meaningOf returns the meaning of an expression which has a kind at a place.
func (v View) meaningOf(e api.Expr, place []string) meaning {
	switch e.Kind {
	case api.XConst:
		return func([]int) api.Value { return e.Value }
	case api.XAnswer:
		bound := v.bound(v.cells[e.Name])
		return func(row []int) api.Value { return answer(bound(row)) }
	case api.XRow:
		i := slices.Index(place, e.Name)
		return func(row []int) api.Value { return number(row[i] * unit) }
	case api.XOver:
		return v.over(e)
	}
	if isAboutAnswer(e.Op) {
		bound := v.bound(v.cells[e.Args[0].Name])
		return func(row []int) api.Value { return aboutAnswer(e.Op, bound(row)) }
	}
	args := make([]meaning, len(e.Args))
	for i, arg := range e.Args {
		args[i] = v.meaningOf(arg, place)
	}
	return func(row []int) api.Value {
		var room [3]api.Value // most operations need no more, and so no memory of their own
		values := room[:0]
		for _, arg := range args {
			values = append(values, arg(row))
		}
		return operate(e.Op, values)
	}
}

// answer returns the value of a cell, Missing if it is missing.
func answer(bound api.Bound) api.Value {
	if !bound.Asked || bound.Value.Kind == api.Special {
		return api.Value{}
	}
	return bound.Value
}

func aboutAnswer(op int, bound api.Bound) api.Value {
	switch op {
	case api.OpAnswered:
		return boolean(!isMissing(answer(bound)))
	case api.OpAsked:
		return boolean(bound.Asked)
	}
	if bound.Asked && bound.Value.Kind == api.Special {
		return number(bound.Value.N * unit)
	}
	return number(0)
}

// over returns the meaning of an XOver. It depends only on the rows around its loop. These come in order, so it is enough to remember the last value as long as the source has not changed, and aggregates within aggregates over the same rows are not computed for each row anew.
func (v View) over(e api.Expr) meaning {
	loop := v.loops[e.Name]
	numbers, arg := v.numbers(loop), v.meaningOf(e.Args[0], within(loop))
	var lastRow []int
	var last api.Value
	lastChange := -1
	return func(row []int) api.Value {
		around := row[:len(loop.Loops)]
		if lastChange == v.changes() && slices.Equal(around, lastRow) {
			return last
		}
		inner := append(slices.Clone(around), 0)
		var values []api.Value
		for _, n := range numbers(around) {
			inner[len(around)] = n
			values = append(values, arg(inner))
		}
		last, lastRow, lastChange = aggregate(e.Op, values), slices.Clone(around), v.changes()
		return last
	}
}
