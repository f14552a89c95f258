package value

import (
	"strings"

	"canvass/api"
)

// Rows of the table of V8, from the loosest to the tightest.
const (
	rowOr         = 1
	rowAnd        = 2
	rowNot        = 3
	rowComparison = 4
	rowSum        = 5
	rowProduct    = 6
	rowMinus      = 7
	rowPrimary    = 8
)

// Print returns a text of which Parse makes the expression again (V9).
func Print(e api.Expr) (string, api.Fault) {
	if fault := CheckExpr(e); fault != api.OK {
		return "", fault
	}
	text := printed(e, rowOr)
	if len(text) > api.MaxLine {
		return "", api.ErrLarge
	}
	return text, api.OK
}

// printed returns the text of a part that stands where that row, and tighter ones, can stand without brackets.
func printed(e api.Expr, row int) string {
	text := plain(e)
	if rowOf(e) < row {
		return "(" + text + ")"
	}
	return text
}

func rowOf(e api.Expr) int {
	if e.Kind != api.XOp {
		return rowPrimary
	}
	switch e.Op {
	case api.OpOr:
		return rowOr
	case api.OpAnd:
		return rowAnd
	case api.OpNot:
		return rowNot
	case api.OpEqual, api.OpUnequal, api.OpLess, api.OpAtMost, api.OpGreater, api.OpAtLeast, api.OpIn, api.OpHas:
		return rowComparison
	case api.OpAdd, api.OpSub:
		return rowSum
	case api.OpMul, api.OpDiv, api.OpMod:
		return rowProduct
	case api.OpNeg:
		return rowMinus
	}
	return rowPrimary
}

// plain returns the text of an expression without brackets around it.
func plain(e api.Expr) string {
	switch e.Kind {
	case api.XConst:
		return shown(e.Value)
	case api.XAnswer:
		return e.Name
	case api.XRow:
		return rowWord + "(" + e.Name + ")"
	case api.XOver:
		return overWords[e.Op] + "(" + e.Name + ": " + printed(e.Args[0], rowOr) + ")"
	}
	row, word := rowOf(e), opWords[e.Op]
	switch row {
	case rowOr, rowAnd:
		return joined(e.Args, row+1, " "+word+" ")
	case rowNot:
		return word + " " + printed(e.Args[0], rowNot)
	case rowComparison:
		return joined(e.Args, rowSum, " "+word+" ")
	case rowSum, rowProduct:
		return printed(e.Args[0], row) + " " + word + " " + printed(e.Args[1], row+1)
	case rowMinus:
		return word + printedOpposite(e.Args[0])
	}
	return word + "(" + joined(e.Args, rowOr, ", ") + ")"
}

// printedOpposite returns the text of the Arg of an OpNeg. Without brackets, the minus and a Number would be read as one constant.
func printedOpposite(e api.Expr) string {
	if e.Kind == api.XConst && e.Value.Kind == api.Number && e.Value.N >= 0 {
		return "(" + plain(e) + ")"
	}
	return printed(e, rowMinus)
}

func joined(parts []api.Expr, row int, between string) string {
	texts := make([]string, len(parts))
	for i, part := range parts {
		texts[i] = printed(part, row)
	}
	return strings.Join(texts, between)
}
