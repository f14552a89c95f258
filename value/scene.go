package value

import (
	"cmp"
	"slices"
	"strings"

	"canvass/api"
)

// CheckScene validates a scene (V13).
func CheckScene(s api.Scene) api.Fault {
	_, fault := sightOfScene(s)
	return fault
}

// sightOfScene validates a scene and returns what expressions can name in it.
func sightOfScene(s api.Scene) (Sight, api.Fault) {
	names, fault := sightOf(s.Cells, s.Loops)
	if fault != api.OK {
		return Sight{}, fault
	}
	if len(s.Bounds) > api.MaxBounds || len(s.Rows) > api.MaxBounds {
		return Sight{}, api.ErrLarge
	}
	for i, bound := range s.Bounds {
		fault := names.checkBound(bound)
		if fault == api.OK && i > 0 {
			fault = checkOrder(compareBounds(s.Bounds[i-1], bound))
		}
		if fault != api.OK {
			return Sight{}, fault
		}
	}
	for i, rows := range s.Rows {
		fault := names.checkRows(rows)
		if fault == api.OK && i > 0 {
			fault = checkOrder(compareRows(s.Rows[i-1], rows))
		}
		if fault != api.OK {
			return Sight{}, fault
		}
	}
	return names, api.OK
}

// checkOrder turns how an element compares to the next one into a fault.
func checkOrder(order int) api.Fault {
	switch {
	case order > 0:
		return api.ErrOrder
	case order == 0:
		return api.ErrTwice
	}
	return api.OK
}

func compareBounds(a, b api.Bound) int {
	return cmp.Or(strings.Compare(a.Name, b.Name), slices.Compare(a.Row, b.Row))
}

func compareRows(a, b api.Rows) int {
	return cmp.Or(strings.Compare(a.Loop, b.Loop), slices.Compare(a.Row, b.Row))
}

func (s Sight) checkBound(bound api.Bound) api.Fault {
	cell, known := s.cells[bound.Name]
	if !known {
		return api.ErrName
	}
	if fault := checkRow(bound.Row, cell.Loops); fault != api.OK {
		return fault
	}
	if fault := Check(bound.Value); fault != api.OK {
		return fault
	}
	if kind := bound.Value.Kind; kind != api.Missing && kind != api.Special && kind != cell.Kind {
		return api.ErrType
	}
	return api.OK
}

func (s Sight) checkRows(rows api.Rows) api.Fault {
	loop, known := s.loops[rows.Loop]
	if !known {
		return api.ErrName
	}
	if fault := checkRow(rows.Row, loop.Loops); fault != api.OK {
		return fault
	}
	for i, n := range rows.Numbers {
		if n < 1 || n > api.MaxCode {
			return api.ErrRange
		}
		if i > 0 && n <= rows.Numbers[i-1] {
			return api.ErrOrder
		}
	}
	return api.OK
}

// checkRow validates the numbers of the rows of some loops.
func checkRow(row []int, loops []string) api.Fault {
	if len(row) != len(loops) {
		return api.ErrForm
	}
	return checkNumbers(row)
}
