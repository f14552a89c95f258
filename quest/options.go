package quest

import (
	"slices"
	"strconv"
	"strings"

	"canvass/api"
	"canvass/value"
)

// Arranged returns the order of the Items of a block (F10).
func Arranged(f api.Form, seed, name string, row []int) ([]int, api.Fault) {
	x, fault := findEntry(f, name)
	if fault != api.OK {
		return nil, fault
	}
	if x.item.Kind != api.ItemBlock {
		return nil, api.ErrName
	}
	if fault := checkRow(row, x.loops); fault != api.OK {
		return nil, fault
	}
	return ArrangedBy(x.item, seed, row)
}

// ArrangedBy is Arranged for a block itself. With it, many orders cost no more than they do: no form is checked.
func ArrangedBy(block api.Item, seed string, row []int) ([]int, api.Fault) {
	if block.Shuffle {
		return value.Shuffle(seedOf(seed, block.Name, row), len(block.Items))
	}
	order := make([]int, len(block.Items))
	for i := range order {
		order[i] = i
	}
	return order, api.OK
}

// seedOf returns the seed for an item and a row.
func seedOf(seed, name string, row []int) string {
	numbers := make([]string, len(row))
	for i, n := range row {
		numbers[i] = strconv.Itoa(n)
	}
	return seed + "|" + name + "|" + strings.Join(numbers, ".")
}

// checkRow has the errors of the numbers of the rows of loops.
func checkRow(row []int, loops []string) api.Fault {
	if len(row) != len(loops) {
		return api.ErrForm
	}
	for _, n := range row {
		if n < 1 || n > api.MaxCode {
			return api.ErrRange
		}
	}
	return api.OK
}

// viewOf returns the view of a scene of the form, or the errors of the scene in F8.
func (p *plan) viewOf(s api.Scene) (value.View, api.Fault) {
	view, fault := value.ViewOf(s)
	if fault != api.OK {
		return value.View{}, fault
	}
	sameCell := func(a, b api.Cell) bool {
		return a.Name == b.Name && a.Kind == b.Kind && slices.Equal(a.Loops, b.Loops)
	}
	sameNest := func(a, b api.Nest) bool { return a.Name == b.Name && slices.Equal(a.Loops, b.Loops) }
	if !slices.EqualFunc(s.Cells, p.cells(), sameCell) || !slices.EqualFunc(s.Loops, p.nests(), sameNest) {
		return value.View{}, api.ErrForm
	}
	return view, api.OK
}

// Options returns the codes of the options that a question offers (F10).
func Options(f api.Form, seed, name string, row []int, s api.Scene) ([]int, api.Fault) {
	p, fault := planOf(f)
	if fault != api.OK {
		return nil, fault
	}
	x := p.named[name]
	if x == nil || !x.isCoded() {
		return nil, api.ErrName
	}
	view, fault := p.viewOf(s)
	if fault != api.OK {
		return nil, fault
	}
	if fault := checkRow(row, x.loops); fault != api.OK {
		return nil, fault
	}
	isOffered := func(code int) bool {
		isFalse := func(only api.Expr) bool {
			v, _ := view.Eval(withOption(only, code), x.loops, row)
			return v.N == 0
		}
		return !slices.ContainsFunc(x.item.Answer.Only, isFalse)
	}
	return OptionsBy(x.item, p.lists[x.item.Answer.List].Options, seed, row, isOffered)
}

// OptionsBy is Options for a question itself, whose list has some options, where a function tells whether its Only is true for a code. With it, no form and no scene is checked.
func OptionsBy(question api.Item, options []api.Option, seed string, row []int, isOffered func(code int) bool) ([]int, api.Fault) {
	ordered, fault := inOrder(question, options, seed, row)
	if fault != api.OK {
		return nil, fault
	}
	codes := make([]int, 0, len(ordered))
	for _, option := range ordered {
		if isOffered(option.Code) {
			codes = append(codes, option.Code)
		}
	}
	return codes, api.OK
}

// inOrder returns the options of a question, with Shuffle those without Last in another order among their places.
func inOrder(question api.Item, options []api.Option, seed string, row []int) ([]api.Option, api.Fault) {
	if !question.Answer.Shuffle {
		return options, api.OK
	}
	var places []int
	for i, option := range options {
		if !option.Last {
			places = append(places, i)
		}
	}
	order, fault := value.Shuffle(seedOf(seed, question.Name, row), len(places))
	if fault != api.OK {
		return nil, fault
	}
	out := slices.Clone(options)
	for i, n := range order {
		out[places[i]] = options[places[n]]
	}
	return out, api.OK
}

// withOption returns an expression in which a code stands for the cell `option`. So the scene needs no Bound for it.
func withOption(e api.Expr, code int) api.Expr {
	constant := func(v api.Value) api.Expr { return api.Expr{Kind: api.XConst, Value: v} }
	isOption := func(e api.Expr) bool { return e.Kind == api.XAnswer && e.Name == OptionName }
	if isOption(e) {
		return constant(api.Value{Kind: api.Choice, N: code})
	}
	if e.Kind == api.XOp && isOption(e.Args[0]) {
		switch e.Op {
		case api.OpAnswered, api.OpAsked:
			return constant(api.Value{Kind: api.Bool, N: 1})
		case api.OpReason:
			return constant(api.Value{Kind: api.Number})
		}
	}
	args := make([]api.Expr, len(e.Args))
	for i, arg := range e.Args {
		args[i] = withOption(arg, code)
	}
	e.Args = args
	return e
}

// Accept says whether a value can be the answer of a question that offers some options (F11).
func Accept(f api.Form, name string, v api.Value, offered []int) api.Fault {
	p, fault := planOf(f)
	if fault != api.OK {
		return fault
	}
	x := p.named[name]
	if x == nil || x.item.Kind != api.ItemQuestion {
		return api.ErrName
	}
	return AcceptBy(x.item.Answer, p.lists[x.item.Answer.List].Options, v, offered)
}

// AcceptBy is Accept for a question with an Answer, whose list has some options. With it, many values cost no more than they do: no form is checked.
func AcceptBy(answer api.Answer, options []api.Option, v api.Value, offered []int) api.Fault {
	if fault := value.Check(v); fault != api.OK {
		return fault
	}
	switch v.Kind {
	case api.Missing:
		if answer.Need {
			return api.ErrMissing
		}
		return api.OK
	case api.Special:
		if !slices.Contains(answer.Reasons, v.N) {
			return api.ErrType
		}
		return api.OK
	case answer.Kind:
		return acceptSize(answer, v, offered, options)
	}
	return api.ErrType
}

func acceptSize(answer api.Answer, v api.Value, offered []int, options []api.Option) api.Fault {
	size := sizeOf(v)
	if size < answer.Low || size > answer.High {
		return api.ErrRange
	}
	if v.Kind == api.Number && v.N%smallest(answer.Places) != 0 {
		return api.ErrForm
	}
	for _, code := range codesOf(v) {
		if !slices.Contains(offered, code) {
			return api.ErrNone
		}
	}
	return acceptAlone(v, options)
}

// acceptAlone says ErrConflict if an option that is Alone was chosen with others.
func acceptAlone(v api.Value, options []api.Option) api.Fault {
	if len(v.Set) < 2 {
		return api.OK
	}
	for _, option := range options {
		if option.Alone && slices.Contains(v.Set, option.Code) {
			return api.ErrConflict
		}
	}
	return api.OK
}

// sizeOf returns what must be from Low to High; 0, which both are, of a Choice.
func sizeOf(v api.Value) int {
	switch v.Kind {
	case api.Number, api.Day:
		return v.N
	case api.Text:
		return len(v.S)
	}
	return len(v.Set)
}

func codesOf(v api.Value) []int {
	if v.Kind == api.Choice {
		return []int{v.N}
	}
	return v.Set
}

// smallest returns the least Number above 0 with so many digits behind the point.
func smallest(places int) int {
	n := 10000
	for range places {
		n /= 10
	}
	return n
}
