package proof

import (
	"slices"

	"canvass/api"
	"canvass/quest"
)

// isPlain reports whether the form is plain (P1).
func (p *plan) isPlain() bool {
	for _, x := range p.entries {
		switch {
		case x.item.Kind == api.ItemLoop:
			return false
		case x.item.Kind == api.ItemEnd && x.isShuffled():
			return false
		case x.item.Answer.Kind == api.Choices && len(x.options) > api.MaxPlain:
			return false
		}
		plain := true
		x.eachCondition(func(e api.Expr) { plain = plain && p.isCondition(e) })
		if !plain {
			return false
		}
	}
	return true
}

// isShuffled reports whether an item is within a block with Shuffle.
func (x *entry) isShuffled() bool {
	for around := x.around; around != nil; around = around.around {
		if around.item.Shuffle {
			return true
		}
	}
	return false
}

// isCondition reports whether an expression is a plain condition.
func (p *plan) isCondition(e api.Expr) bool {
	switch e.Kind {
	case api.XConst:
		return e.Value.Kind == api.Bool
	case api.XAnswer:
		return e.Name != quest.OptionName && p.named[e.Name].isCompute()
	case api.XOp:
		return p.isPlainOp(e)
	}
	return false
}

func (p *plan) isPlainOp(e api.Expr) bool {
	switch e.Op {
	case api.OpNot, api.OpAnd, api.OpOr:
		return !slices.ContainsFunc(e.Args, func(arg api.Expr) bool { return !p.isCondition(arg) })
	case api.OpAsked, api.OpAnswered:
		return true
	case api.OpIn:
		return p.kindOf(e.Args[0]) == api.Choice && e.Args[1].Kind == api.XConst
	case api.OpHas:
		return p.kindOf(e.Args[0]) == api.Choices && e.Args[1].Kind == api.XConst
	case api.OpEqual, api.OpUnequal, api.OpLess, api.OpAtMost, api.OpGreater, api.OpAtLeast:
		first, second := e.Args[0], e.Args[1]
		return second.Kind == api.XConst && p.isCompared(first, e.Op) || first.Kind == api.XConst && p.isCompared(second, e.Op)
	}
	return false
}

// isCompared reports whether an expression can be compared with a constant by an operation.
func (p *plan) isCompared(e api.Expr, op int) bool {
	if e.Kind == api.XOp {
		return e.Op == api.OpReason || e.Op == api.OpSize && p.kindOf(e.Args[0]) == api.Choices
	}
	switch p.kindOf(e) {
	case api.Number, api.Day:
		return true
	case api.Choice:
		return op == api.OpEqual || op == api.OpUnequal
	}
	return false
}

// kindOf returns the kind of the question that an expression names; 0, if it names none.
func (p *plan) kindOf(e api.Expr) int {
	if e.Kind != api.XAnswer {
		return 0
	}
	if e.Name == quest.OptionName {
		return api.Choice
	}
	return p.named[e.Name].item.Answer.Kind
}
