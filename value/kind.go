package value

import (
	"slices"

	"canvass/api"
)

// Sight is what expressions can name. With one, the kinds of many expressions cost no more than they do.
type Sight struct {
	cells map[string]api.Cell
	loops map[string]api.Nest
}

// TypeOf returns the kind of the result of an expression at a place (V11).
func TypeOf(e api.Expr, cells []api.Cell, loops []api.Nest, at []string) (int, api.Fault) {
	if fault := CheckExpr(e); fault != api.OK {
		return 0, fault
	}
	s, fault := sightOf(cells, loops)
	if fault != api.OK {
		return 0, fault
	}
	return s.typeOf(e, at)
}

// typeOf is TypeOf for an expression that CheckExpr accepts.
func (s Sight) typeOf(e api.Expr, at []string) (int, api.Fault) {
	if !s.isPlace(at) {
		return 0, api.ErrNone
	}
	return s.kindOf(e, at)
}

// sightOf validates cells and loops.
func sightOf(cells []api.Cell, loops []api.Nest) (Sight, api.Fault) {
	s := Sight{map[string]api.Cell{}, map[string]api.Nest{}}
	for _, cell := range cells {
		if fault := s.addCell(cell); fault != api.OK {
			return Sight{}, fault
		}
	}
	for _, loop := range loops {
		if fault := s.addLoop(loop); fault != api.OK {
			return Sight{}, fault
		}
	}
	for _, cell := range cells {
		if !s.isPlace(cell.Loops) {
			return Sight{}, api.ErrNone
		}
	}
	return s, api.OK
}

func (s Sight) addCell(cell api.Cell) api.Fault {
	if !IsName(cell.Name) {
		return api.ErrName
	}
	if _, twice := s.cells[cell.Name]; twice {
		return api.ErrTwice
	}
	if cell.Kind < api.Number || cell.Kind > api.Bool {
		return api.ErrKind
	}
	s.cells[cell.Name] = cell
	return api.OK
}

func (s Sight) addLoop(loop api.Nest) api.Fault {
	if !IsName(loop.Name) {
		return api.ErrName
	}
	if _, twice := s.loops[loop.Name]; twice {
		return api.ErrTwice
	}
	if !s.isPlace(loop.Loops) {
		return api.ErrOrder
	}
	s.loops[loop.Name] = loop
	return api.OK
}

// isPlace reports whether loops are empty, or the Loops and the Name of a loop.
func (s Sight) isPlace(loops []string) bool {
	if len(loops) == 0 {
		return true
	}
	around, last := loops[:len(loops)-1], loops[len(loops)-1]
	loop, known := s.loops[last]
	return known && slices.Equal(loop.Loops, around)
}

// within returns the place within a loop. It is never an extension of a list that was given.
func within(loop api.Nest) []string { return slices.Concat(loop.Loops, []string{loop.Name}) }

// isAround reports whether loops are a beginning of a place.
func isAround(loops, place []string) bool {
	return len(loops) <= len(place) && slices.Equal(loops, place[:len(loops)])
}

// kindOf returns the kind of an expression that CheckExpr accepts.
func (s Sight) kindOf(e api.Expr, place []string) (int, api.Fault) {
	switch e.Kind {
	case api.XConst:
		return e.Value.Kind, api.OK
	case api.XAnswer:
		if cell, known := s.cells[e.Name]; known && isAround(cell.Loops, place) {
			return cell.Kind, api.OK
		}
		return 0, api.ErrName
	case api.XRow:
		if slices.Contains(place, e.Name) {
			return api.Number, api.OK
		}
		return 0, api.ErrName
	case api.XOver:
		loop, known := s.loops[e.Name]
		if !known || !isAround(loop.Loops, place) {
			return 0, api.ErrName
		}
		place = within(loop)
	}
	kinds := make([]int, len(e.Args))
	for i, arg := range e.Args {
		kind, fault := s.kindOf(arg, place)
		if fault != api.OK {
			return 0, fault
		}
		kinds[i] = kind
	}
	kind, fits := resultKind(e, kinds)
	if !fits {
		return 0, api.ErrType
	}
	return kind, api.OK
}

// resultKind returns the kind of an XOp or XOver with Args of some kinds, and whether these fit (V10).
func resultKind(e api.Expr, kinds []int) (int, bool) {
	if e.Kind == api.XOver {
		return overKind(e.Op, kinds[0])
	}
	switch e.Op {
	case api.OpNot, api.OpAnd, api.OpOr:
		return api.Bool, areAll(kinds, api.Bool)
	case api.OpEqual, api.OpUnequal:
		return api.Bool, kinds[0] == kinds[1]
	case api.OpLess, api.OpAtMost, api.OpGreater, api.OpAtLeast:
		return api.Bool, areAll(kinds, api.Number) || areAll(kinds, api.Day)
	case api.OpIn:
		return api.Bool, kinds[0] == api.Choice && kinds[1] == api.Choices
	case api.OpHas:
		return api.Bool, kinds[0] == api.Choices && kinds[1] == api.Choice
	case api.OpAnswered, api.OpAsked:
		return api.Bool, true
	case api.OpReason:
		return api.Number, true
	case api.OpLeast, api.OpMost:
		return kinds[0], areAll(kinds, api.Number) || areAll(kinds, api.Day)
	case api.OpIf:
		return kinds[1], kinds[0] == api.Bool && kinds[1] == kinds[2]
	case api.OpElse:
		return kinds[0], kinds[0] == kinds[1]
	case api.OpSize:
		return api.Number, kinds[0] == api.Choices || kinds[0] == api.Text
	case api.OpCode:
		return api.Number, kinds[0] == api.Choice
	case api.OpLower, api.OpJoin:
		return api.Text, areAll(kinds, api.Text)
	case api.OpBegins, api.OpHolds:
		return api.Bool, areAll(kinds, api.Text)
	case api.OpYear, api.OpMonth, api.OpDayOf, api.OpDays, api.OpAge:
		return api.Number, areAll(kinds, api.Day)
	case api.OpLater:
		return api.Day, kinds[0] == api.Day && kinds[1] == api.Number
	}
	return api.Number, areAll(kinds, api.Number)
}

func overKind(op, kind int) (int, bool) {
	switch op {
	case api.OverSum:
		return api.Number, kind == api.Number
	case api.OverCount:
		return api.Number, kind == api.Bool
	case api.OverAny, api.OverAll:
		return api.Bool, kind == api.Bool
	}
	return kind, kind == api.Number || kind == api.Day
}

func areAll(kinds []int, kind int) bool {
	return !slices.ContainsFunc(kinds, func(k int) bool { return k != kind })
}
