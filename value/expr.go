package value

import (
	"math"
	"slices"

	"canvass/api"
)

// opWords are the words and signs of operations.
var opWords = [...]string{
	api.OpNot: "not", api.OpAnd: "and", api.OpOr: "or",
	api.OpEqual: "=", api.OpUnequal: "<>", api.OpLess: "<", api.OpAtMost: "<=", api.OpGreater: ">", api.OpAtLeast: ">=", api.OpIn: "in", api.OpHas: "has",
	api.OpAnswered: "answered", api.OpAsked: "asked", api.OpReason: "reason",
	api.OpAdd: "+", api.OpSub: "-", api.OpMul: "*", api.OpDiv: "/", api.OpMod: "mod", api.OpNeg: "-",
	api.OpAbs: "abs", api.OpFloor: "floor", api.OpRound: "round", api.OpLeast: "min", api.OpMost: "max",
	api.OpIf: "if", api.OpElse: "else", api.OpSize: "size", api.OpCode: "code", api.OpLower: "lower",
	api.OpJoin: "join", api.OpBegins: "begins", api.OpHolds: "holds",
	api.OpYear: "year", api.OpMonth: "month", api.OpDayOf: "day", api.OpDays: "days", api.OpAge: "age", api.OpLater: "later",
}

// overWords are the names of aggregates.
var overWords = [...]string{
	api.OverSum: "sum", api.OverCount: "count", api.OverAny: "any", api.OverAll: "all", api.OverLeast: "least", api.OverMost: "most",
}

// rowWord is the name of the function for XRow.
const rowWord = "row"

// isReserved reports whether a word is one of those that are no names.
func isReserved(word string) bool {
	switch word {
	case "and", "or", "not", "in", "has", "mod", "true", "false":
		return true
	}
	return false
}

// opOf returns the operation with a word, or 0. A sign that two operations have is that of the first one.
func opOf(word string) int {
	for op, other := range opWords {
		if op > 0 && other == word {
			return op
		}
	}
	return 0
}

// overOf returns the aggregate with a name, or 0.
func overOf(word string) int {
	for op, other := range overWords {
		if op > 0 && other == word {
			return op
		}
	}
	return 0
}

// IsName reports whether a text is a name (V7).
func IsName(text string) bool {
	if len(text) == 0 || len(text) > api.MaxName || !isLetter(text[0]) {
		return false
	}
	for i := range len(text) {
		if !isWordByte(text[i]) {
			return false
		}
	}
	return !isReserved(text)
}

func isLetter(b byte) bool { return b >= 'a' && b <= 'z' }

func isDigit(b byte) bool { return b >= '0' && b <= '9' }

func isWordByte(b byte) bool { return isLetter(b) || isDigit(b) || b == '_' }

// CheckExpr says whether an expression has the form of one (V7).
func CheckExpr(e api.Expr) api.Fault {
	left := api.MaxParts
	if !hasRoom(e, 1, &left) {
		return api.ErrLarge
	}
	return checkParts(e)
}

// hasRoom stops as soon as a limit is exceeded, however large the expression is. left is how many parts are still permitted.
func hasRoom(e api.Expr, level int, left *int) bool {
	*left--
	if *left < 0 || level > api.MaxDeep {
		return false
	}
	for _, arg := range e.Args {
		if !hasRoom(arg, level+1, left) {
			return false
		}
	}
	return true
}

func checkParts(e api.Expr) api.Fault {
	if fault := checkPart(e); fault != api.OK {
		return fault
	}
	for _, arg := range e.Args {
		if fault := checkParts(arg); fault != api.OK {
			return fault
		}
	}
	return api.OK
}

func checkPart(e api.Expr) api.Fault {
	if !isKnown(e) {
		return api.ErrKind
	}
	if !hasForm(e) {
		return api.ErrForm
	}
	if e.Kind == api.XConst {
		if e.Value.Kind == api.Missing || e.Value.Kind == api.Special {
			return api.ErrKind
		}
		return Check(e.Value)
	}
	if e.Kind != api.XOp && !IsName(e.Name) {
		return api.ErrName
	}
	if e.Kind == api.XOp && isAboutAnswer(e.Op) && e.Args[0].Kind != api.XAnswer {
		return api.ErrForm
	}
	return api.OK
}

func isKnown(e api.Expr) bool {
	switch e.Kind {
	case api.XConst, api.XAnswer, api.XRow:
		return true
	case api.XOp:
		return e.Op >= api.OpNot && e.Op <= api.OpLater
	case api.XOver:
		return e.Op >= api.OverSum && e.Op <= api.OverMost
	}
	return false
}

func hasForm(e api.Expr) bool {
	hasOp := e.Kind == api.XOp || e.Kind == api.XOver
	hasName := e.Kind == api.XAnswer || e.Kind == api.XRow || e.Kind == api.XOver
	least, most := 0, 0
	switch e.Kind {
	case api.XOp:
		least, most = argsOf(e.Op)
	case api.XOver:
		least, most = 1, 1
	}
	return (hasOp || e.Op == 0) && (hasName || e.Name == "") && (e.Kind == api.XConst || isZero(e.Value)) && len(e.Args) >= least && len(e.Args) <= most
}

func isZero(v api.Value) bool { return v.Kind == 0 && v.N == 0 && v.S == "" && len(v.Set) == 0 }

// isAboutAnswer reports whether an operation is about a cell itself, not its value.
func isAboutAnswer(op int) bool {
	return op == api.OpAnswered || op == api.OpAsked || op == api.OpReason
}

// argsOf returns the least and the greatest number of Args of an operation. Where V10 has no greatest one, MaxParts is a matter of the whole expression (ErrLarge), not of the operation.
func argsOf(op int) (int, int) {
	switch op {
	case api.OpAnd, api.OpOr, api.OpLeast, api.OpMost:
		return 2, math.MaxInt
	case api.OpIf:
		return 3, 3
	case api.OpNot, api.OpAnswered, api.OpAsked, api.OpReason, api.OpNeg, api.OpAbs, api.OpFloor, api.OpRound, api.OpSize, api.OpCode, api.OpLower, api.OpYear, api.OpMonth, api.OpDayOf:
		return 1, 1
	}
	return 2, 2
}

// Names returns the names of all XAnswers, increasing, each once (V9).
func Names(e api.Expr) []string {
	var names []string
	var gather func(part api.Expr)
	gather = func(part api.Expr) {
		if part.Kind == api.XAnswer {
			names = append(names, part.Name)
		}
		for _, arg := range part.Args {
			gather(arg)
		}
	}
	gather(e)
	slices.Sort(names)
	return slices.Compact(names)
}
