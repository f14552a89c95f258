package study

import (
	"slices"
	"strconv"

	"canvass/api"
)

// linesOf is LinesOf (T2).
func (b *book) linesOf(name string, nets []api.Net) ([]api.Line, api.Fault) {
	x := b.question(name)
	switch {
	case x == nil:
		return nil, api.ErrName
	case !x.isCoded():
		return nil, api.ErrType
	case len(x.Loops) > 0:
		return nil, api.ErrForm
	case len(nets) > api.MaxNets:
		return nil, api.ErrLarge
	}
	var lines []api.Line
	for _, o := range x.options {
		lines = append(lines, api.Line{Title: titleOf(o), If: x.isChosen(o.Code)})
	}
	for _, net := range nets {
		if fault := x.checkNet(net); fault != api.OK {
			return nil, fault
		}
		lines = append(lines, api.Line{Title: net.Title, If: x.isOneChosen(net.Codes)})
	}
	return lines, api.OK
}

// titleOf returns the title of the line of an option.
func titleOf(o api.Option) string {
	if title := textIn(o.Phrase, 0); checkTitle(title) == api.OK {
		return title
	}
	return strconv.Itoa(o.Code)
}

// checkTitle has the errors of a title (T3).
func checkTitle(title string) api.Fault {
	if len(title) > api.MaxTitleText {
		return api.ErrLarge
	}
	for i := range len(title) {
		if title[i] < 32 || title[i] > 126 {
			return api.ErrForm
		}
	}
	if title == "" {
		return api.ErrForm
	}
	return api.OK
}

// checkNet has the errors of a net of the options of a question.
func (x *variable) checkNet(net api.Net) api.Fault {
	if fault := checkTitle(net.Title); fault != api.OK {
		return fault
	}
	if len(net.Codes) == 0 {
		return api.ErrNone
	}
	for i, code := range net.Codes {
		if _, is := x.option(code); !is {
			return api.ErrName
		}
		if i > 0 && code <= net.Codes[i-1] {
			return api.ErrOrder
		}
	}
	return api.OK
}

// isChosen says that an option is chosen.
func (x *variable) isChosen(code int) api.Expr {
	op := api.OpEqual
	if x.Kind == api.Choices {
		op = api.OpHas
	}
	return x.compared(op, api.Value{Kind: api.Choice, N: code})
}

// isOneChosen says that one of some options, of which there is at least one, is chosen.
func (x *variable) isOneChosen(codes []int) api.Expr {
	if x.Kind == api.Choice {
		return x.compared(api.OpIn, api.Value{Kind: api.Choices, Set: slices.Clone(codes)})
	}
	args := make([]api.Expr, len(codes))
	for i, code := range codes {
		args[i] = x.isChosen(code)
	}
	if len(args) == 1 {
		return args[0]
	}
	return api.Expr{Kind: api.XOp, Op: api.OpOr, Args: args}
}

// compared is an operation of the answer and a constant.
func (x *variable) compared(op int, v api.Value) api.Expr {
	answer, constant := api.Expr{Kind: api.XAnswer, Name: x.Name}, api.Expr{Kind: api.XConst, Value: v}
	return api.Expr{Kind: api.XOp, Op: op, Args: []api.Expr{answer, constant}}
}
