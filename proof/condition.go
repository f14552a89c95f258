package proof

import (
	"slices"

	"canvass/api"
	"canvass/value"
)

// holds reports whether a plain condition about one cell is true, where b is what is bound to this (V12).
func holds(e api.Expr, b api.Bound) bool {
	switch {
	case e.Kind == api.XAnswer: // of a computed value
		return known(b).N == 1
	case e.Op == api.OpAsked:
		return b.Asked
	case e.Op == api.OpAnswered:
		return known(b).Kind != api.Missing
	}
	first, second := operand(e.Args[0], b), operand(e.Args[1], b)
	return first.Kind != api.Missing && second.Kind != api.Missing && compares(e.Op, first, second)
}

// known returns the value of a cell; Missing, if it is missing.
func known(b api.Bound) api.Value {
	if !b.Asked || b.Value.Kind == api.Special {
		return api.Value{}
	}
	return b.Value
}

// operand returns the value of an Arg of a comparison.
func operand(e api.Expr, b api.Bound) api.Value {
	v := known(b)
	switch {
	case e.Kind == api.XConst:
		return e.Value
	case e.Op == api.OpReason && b.Asked && b.Value.Kind == api.Special:
		return api.Value{Kind: api.Number, N: b.Value.N * unit}
	case e.Op == api.OpReason:
		return api.Value{Kind: api.Number}
	case e.Op == api.OpSize && v.Kind == api.Choices:
		return api.Value{Kind: api.Number, N: len(v.Set) * unit}
	}
	return v
}

// compares tells a comparison of two values that are not missing.
func compares(op int, first, second api.Value) bool {
	order := value.Compare(first, second)
	switch op {
	case api.OpEqual:
		return order == 0
	case api.OpUnequal:
		return order != 0
	case api.OpLess:
		return order < 0
	case api.OpAtMost:
		return order <= 0
	case api.OpGreater:
		return order > 0
	case api.OpAtLeast:
		return order >= 0
	case api.OpIn:
		return slices.Contains(second.Set, first.N)
	}
	return slices.Contains(first.Set, second.N)
}
