package value

import (
	"strings"

	"canvass/api"
)

// Parse returns the expression of a text, or the place at which it ceases to be one (V8).
func Parse(text string) (e api.Expr, place int, fault api.Fault) {
	if len(text) > api.MaxLine {
		return api.Expr{}, 0, api.ErrLarge
	}
	r := &reader{text: text}
	// A word that cannot stand where it stands makes the reader panic, from within whatever it reads.
	defer func() {
		if recover() != nil {
			e, place, fault = api.Expr{}, r.start, api.ErrSyntax
		}
	}()
	r.next()
	e = r.or()
	if r.word != "" {
		r.refuse()
	}
	if fault := CheckExpr(e); fault != api.OK {
		return api.Expr{}, 0, fault
	}
	return e, 0, api.OK
}

// reader reads an expression word by word. Each row of the table of V8 has a method, which begins with the word at hand and goes on to the first one that it does not take.
type reader struct {
	text  string
	start int    // where the word at hand begins
	end   int    // and ends
	word  string // empty behind the last one
}

// refuse says that the word at hand cannot stand where it stands.
func (r *reader) refuse() { panic("misplaced word") }

// next goes on to the next word.
func (r *reader) next() {
	before := r.end
	r.start = before
	for r.start < len(r.text) && r.text[r.start] == ' ' {
		r.start++
	}
	r.end = r.start + wordLength(r.text[r.start:])
	r.word = r.text[r.start:r.end]
	if before > 0 && r.start == before && r.word != "" && isWordByte(r.text[before-1]) && isWordByte(r.word[0]) {
		r.refuse()
	}
}

// wordLength returns the length of the word with which a text begins.
func wordLength(text string) int {
	switch {
	case text == "":
		return 0
	case isLetter(text[0]):
		return lengthWhile(text, isWordByte)
	case isDigit(text[0]):
		return lengthWhile(text, func(b byte) bool { return isDigit(b) || b == '.' })
	case text[0] == '@':
		return 1 + lengthWhile(text[1:], func(b byte) bool { return isDigit(b) || b == '-' })
	case text[0] == '#':
		return 1 + lengthWhile(text[1:], isDigit)
	case text[0] == '\'':
		return textLength(text)
	case text[0] == '{':
		return 1 + min(len(text)-1, lengthWhile(text[1:], func(b byte) bool { return b != '}' })+1)
	case strings.HasPrefix(text, "<>") || strings.HasPrefix(text, "<=") || strings.HasPrefix(text, ">="):
		return 2
	}
	return 1
}

func lengthWhile(text string, belongs func(b byte) bool) int {
	n := 0
	for n < len(text) && belongs(text[n]) {
		n++
	}
	return n
}

// textLength returns the length of the Text with which a text begins.
func textLength(text string) int {
	for i := 1; i < len(text); i++ {
		if text[i] != '\'' {
			continue
		}
		if i+1 == len(text) || text[i+1] != '\'' {
			return i + 1
		}
		i++
	}
	return len(text)
}

// take goes on if the word at hand is this one.
func (r *reader) take(word string) bool {
	if r.word != word {
		return false
	}
	r.next()
	return true
}

// need goes on, but this word must be at hand.
func (r *reader) need(word string) {
	if !r.take(word) {
		r.refuse()
	}
}

func (r *reader) or() api.Expr { return r.chain(api.OpOr, r.and) }

func (r *reader) and() api.Expr { return r.chain(api.OpAnd, r.not) }

func (r *reader) chain(op int, part func() api.Expr) api.Expr {
	args := []api.Expr{part()}
	for r.take(opWords[op]) {
		args = append(args, part())
	}
	if len(args) == 1 {
		return args[0]
	}
	return operation(op, args...)
}

func (r *reader) not() api.Expr {
	if r.take(opWords[api.OpNot]) {
		return operation(api.OpNot, r.not())
	}
	return r.comparison()
}

func (r *reader) comparison() api.Expr {
	left := r.sum()
	op := r.takeOne(api.OpEqual, api.OpUnequal, api.OpLess, api.OpAtMost, api.OpGreater, api.OpAtLeast, api.OpIn, api.OpHas)
	if op == 0 {
		return left
	}
	return operation(op, left, r.sum())
}

// takeOne goes on if the word at hand is that of one of some operations, and returns which one; otherwise 0.
func (r *reader) takeOne(ops ...int) int {
	for _, op := range ops {
		if r.take(opWords[op]) {
			return op
		}
	}
	return 0
}

func (r *reader) sum() api.Expr { return r.fromLeft(r.product, api.OpAdd, api.OpSub) }

func (r *reader) product() api.Expr {
	return r.fromLeft(r.minus, api.OpMul, api.OpDiv, api.OpMod)
}

// fromLeft reads parts with signs of some operations between them.
func (r *reader) fromLeft(part func() api.Expr, ops ...int) api.Expr {
	e := part()
	for op := r.takeOne(ops...); op != 0; op = r.takeOne(ops...) {
		e = operation(op, e, part())
	}
	return e
}

func (r *reader) minus() api.Expr {
	if r.word != "-" {
		return r.primary()
	}
	if rest := r.text[r.end:]; rest != "" && isDigit(rest[0]) {
		r.end += wordLength(rest)
		r.word = r.text[r.start:r.end]
		return r.constant()
	}
	r.next()
	return operation(api.OpNeg, r.minus())
}

func (r *reader) primary() api.Expr {
	switch {
	case r.take("("):
		e := r.or()
		r.need(")")
		return e
	case r.word == "" || !isLetter(r.word[0]) || isReserved(r.word):
		return r.constant()
	case strings.HasPrefix(r.text[r.end:], "("):
		return r.call()
	}
	return api.Expr{Kind: api.XAnswer, Name: r.name()}
}

func (r *reader) constant() api.Expr {
	v, fault := Read(withoutBlanks(r.word))
	if fault != api.OK || v.Kind < api.Number {
		r.refuse()
	}
	r.next()
	return api.Expr{Kind: api.XConst, Value: v}
}

// withoutBlanks takes out the blanks between the words of a Set, since Read wants none; other words stay.
func withoutBlanks(word string) string {
	if !strings.HasPrefix(word, "{") || !strings.HasSuffix(word, "}") {
		return word
	}
	parts := strings.Split(inside(word), ",")
	for i, part := range parts {
		parts[i] = strings.Trim(part, " ")
	}
	return "{" + strings.Join(parts, ",") + "}"
}

func (r *reader) name() string {
	name := r.word
	if name == "" || !isLetter(name[0]) || isReserved(name) {
		r.refuse()
	}
	r.next()
	return name
}

// call reads a call; a name is at hand, and a bracket directly behind it. (So the word is none of the signs of operations.)
func (r *reader) call() api.Expr {
	word := r.name()
	if word == rowWord {
		return r.row()
	}
	if op := overOf(word); op != 0 {
		return r.over(op)
	}
	op := opOf(word)
	if op == 0 {
		r.refuse()
	}
	return operation(op, r.args(op)...)
}

func (r *reader) row() api.Expr {
	r.need("(")
	loop := r.name()
	r.need(")")
	return api.Expr{Kind: api.XRow, Name: loop}
}

func (r *reader) over(op int) api.Expr {
	r.need("(")
	loop := r.name()
	r.need(":")
	arg := r.or()
	r.need(")")
	return api.Expr{Kind: api.XOver, Op: op, Name: loop, Args: []api.Expr{arg}}
}

func (r *reader) args(op int) []api.Expr {
	least, most := argsOf(op)
	r.need("(")
	args := []api.Expr{r.or()}
	for len(args) < least {
		r.need(",")
		args = append(args, r.or())
	}
	for len(args) < most && r.take(",") {
		args = append(args, r.or())
	}
	r.need(")")
	return args
}

func operation(op int, args ...api.Expr) api.Expr {
	return api.Expr{Kind: api.XOp, Op: op, Args: args}
}
