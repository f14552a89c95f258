package value

import (
	"slices"

	"canvass/api"
	"canvass/fresh"
)

// Board is a scene that grows. What Meaning returns tells the value in the scene as it is when it is called, so a change of the scene costs no more than the change.
type Board struct {
	Sight
	known *shelf
}

// shelf is the source of a board. What is bound is found by a name, and then by a text for the numbers of a row.
type shelf struct {
	bounds map[string]map[string]api.Bound
	rows   map[string]map[string][]int
	times  int // that it has changed
}

// BoardOf returns the board of cells and loops, where nothing is bound yet; or the error that TypeOf has for them.
func BoardOf(cells []api.Cell, loops []api.Nest) (Board, api.Fault) {
	names, fault := SightOf(cells, loops)
	if fault != api.OK {
		return Board{}, fault
	}
	return Board{names, &shelf{bounds: map[string]map[string]api.Bound{}, rows: map[string]map[string][]int{}}}, api.OK
}

// Clear takes away all that is bound.
func (b Board) Clear() {
	for _, bounds := range b.known.bounds {
		clear(bounds)
	}
	for _, rows := range b.known.rows {
		clear(rows)
	}
	b.known.times++
}

// Bind adds a Bound, in place of one with its Name and Row, if there is one; or returns the error that CheckScene has for it alone.
func (b Board) Bind(bound api.Bound) api.Fault {
	if fault := b.checkBound(bound); fault != api.OK {
		return fault
	}
	var room rowRoom
	own := api.Bound{Value: fresh.Value(bound.Value), Asked: bound.Asked}
	mapOf(b.known.bounds, bound.Name)[string(appendRow(room[:0], bound.Row))] = own
	b.known.times++
	return api.OK
}

// Set adds Rows likewise.
func (b Board) Set(rows api.Rows) api.Fault {
	if fault := b.checkRows(rows); fault != api.OK {
		return fault
	}
	var room rowRoom
	mapOf(b.known.rows, rows.Loop)[string(appendRow(room[:0], rows.Row))] = slices.Clone(rows.Numbers)
	b.known.times++
	return api.OK
}

// Meaning is Meaning of a view of the scene as it is when the function that it returns is called.
func (b Board) Meaning(e api.Expr, at []string) (func(row []int) (api.Value, api.Fault), api.Fault) {
	return View{b.Sight, b.known}.Meaning(e, at)
}

func (s *shelf) bound(cell api.Cell) func(row []int) api.Bound {
	bounds := mapOf(s.bounds, cell.Name)
	return func(row []int) api.Bound {
		var room rowRoom
		return bounds[string(appendRow(room[:0], row[:len(cell.Loops)]))]
	}
}

func (s *shelf) numbers(loop api.Nest) func(row []int) []int {
	rows := mapOf(s.rows, loop.Name)
	return func(row []int) []int {
		var room rowRoom
		return rows[string(appendRow(room[:0], row))]
	}
}

func (s *shelf) changes() int { return s.times }

// mapOf returns the map for a name, which is a new one, if there is none yet.
func mapOf[T any](maps map[string]map[string]T, name string) map[string]T {
	if maps[name] == nil {
		maps[name] = map[string]T{}
	}
	return maps[name]
}

// rowRoom is room for the text of a row within as many loops as forms have, which so needs no memory of its own to be looked up.
type rowRoom [2 * api.MaxLoops]byte

// appendRow appends two bytes for each number of a row, which are from 1 to MaxCode.
func appendRow(text []byte, row []int) []byte {
	for _, n := range row {
		text = append(text, byte(n>>8), byte(n))
	}
	return text
}
