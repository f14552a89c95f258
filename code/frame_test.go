package code

import (
	"strings"
	"testing"

	"canvass/api"
)

// TestCheckFrame holds frames at the bounds of C1, and those a bit beyond.
func TestCheckFrame(t *testing.T) {
	node := func(code, parent int, title string) api.Node {
		return api.Node{Code: code, Parent: parent, Title: title}
	}
	for _, x := range []struct {
		what string
		l    []api.Node
		want api.Fault
	}{
		{"one node", flat(1), api.OK},
		{"the least and the greatest code", []api.Node{node(1, 0, "a"), node(999, 0, "b")}, api.OK},
		{"600 nodes", flat(600), api.OK},
		{"601 nodes", flat(601), api.ErrLarge},
		{"no nodes", []api.Node{}, api.ErrNone},
		{"nil", nil, api.ErrNone},
		{"8 levels", chain(8), api.OK},
		{"9 levels", chain(9), api.ErrLarge},
		{"9 levels from the last code up", []api.Node{node(1, 2, "a"), node(2, 3, "a"), node(3, 4, "a"), node(4, 5, "a"), node(5, 6, "a"), node(6, 7, "a"), node(7, 8, "a"), node(8, 9, "a"), node(9, 0, "a")}, api.ErrLarge},
		{"nodes ahead of those above them", []api.Node{node(1, 3, "a"), node(2, 1, "a"), node(3, 0, "a")}, api.OK},
		{"equal titles", []api.Node{node(1, 0, "a"), node(2, 0, "a")}, api.OK},
		{"the code 0", []api.Node{node(0, 0, "a")}, api.ErrRange},
		{"a code below 0", []api.Node{node(-1, 0, "a")}, api.ErrRange},
		{"the code 1000", []api.Node{node(1000, 0, "a")}, api.ErrRange},
		{"equal codes", []api.Node{node(1, 0, "a"), node(1, 0, "a")}, api.ErrOrder},
		{"codes down", []api.Node{node(2, 0, "a"), node(1, 0, "a")}, api.ErrOrder},
		{"a title of 60 bytes", []api.Node{node(1, 0, strings.Repeat("a", 60))}, api.OK},
		{"a title of 61 bytes", []api.Node{node(1, 0, strings.Repeat("a", 61))}, api.ErrLarge},
		{"a long title without a form", []api.Node{node(1, 0, strings.Repeat("\n", 61))}, api.ErrLarge},
		{"a title of all kinds of bytes", []api.Node{node(1, 0, "! a  'b' ~")}, api.OK},
		{"an empty title", []api.Node{node(1, 0, "")}, api.ErrForm},
		{"a blank ahead", []api.Node{node(1, 0, " a")}, api.ErrForm},
		{"a blank behind", []api.Node{node(1, 0, "a ")}, api.ErrForm},
		{"a blank alone", []api.Node{node(1, 0, " ")}, api.ErrForm},
		{"a byte 31", []api.Node{node(1, 0, "a\x1fb")}, api.ErrForm},
		{"a byte 127", []api.Node{node(1, 0, "a\x7fb")}, api.ErrForm},
		{"a byte 128", []api.Node{node(1, 0, "a\x80b")}, api.ErrForm},
		{"a byte 10 at the end", []api.Node{node(1, 0, "a\n")}, api.ErrForm},
		{"a parent that is none", []api.Node{node(1, 2, "a")}, api.ErrName},
		{"a parent below 0", []api.Node{node(1, -1, "a")}, api.ErrName},
		{"a parent far out", []api.Node{node(1, 1<<62, "a")}, api.ErrName},
		{"above itself", []api.Node{node(1, 1, "a")}, api.ErrLoop},
		{"two above one another", []api.Node{node(1, 2, "a"), node(2, 1, "a")}, api.ErrLoop},
		{"below a circle", []api.Node{node(1, 2, "a"), node(2, 3, "a"), node(3, 2, "a"), node(4, 0, "a")}, api.ErrLoop},
		{"a long circle", append([]api.Node{node(1, 600, "a")}, chain(600)[1:]...), api.ErrLoop},
		{"a circle behind a great level", append(chain(9), node(10, 10, "a")), api.ErrLoop},
		{"a circle beside one node", []api.Node{node(1, 0, "a"), node(2, 3, "a"), node(3, 2, "a")}, api.ErrLoop},
		{"an early node with a late error", []api.Node{node(1, 0, ""), node(0, 0, "a")}, api.ErrForm},
		{"no parent behind errors of later nodes", []api.Node{node(1, 7, "a"), node(2, 0, "")}, api.ErrForm},
		{"a circle ahead of no parent", []api.Node{node(1, 1, "a"), node(2, 7, "a")}, api.ErrName},
	} {
		refuses(t, x.what, x.want, CheckFrame(x.l))
	}
}

// TestFrameFaults holds the order of the errors of a frame.
func TestFrameFaults(t *testing.T) {
	type nodes = []api.Node
	rungs := []rung[nodes]{
		{"601 nodes", func(x *nodes) { *x = append(*x, make(nodes, 591)...) }, api.ErrLarge},
		{"a code out of range", func(x *nodes) { (*x)[2].Code = 1000 }, api.ErrRange},
		{"codes that do not increase", func(x *nodes) { (*x)[2].Code = 2 }, api.ErrOrder},
		{"a long title", func(x *nodes) { (*x)[2].Title = strings.Repeat(" ", 61) }, api.ErrLarge},
		{"a title without a form", func(x *nodes) { (*x)[2].Title = "a " }, api.ErrForm},
		{"a code of the next one", func(x *nodes) { (*x)[3].Code = 0 }, api.ErrRange},
		{"no parent", func(x *nodes) { (*x)[1].Parent = 77 }, api.ErrName},
		{"a circle", func(x *nodes) { (*x)[0].Parent = 1 }, api.ErrLoop},
		{"nine levels", func(x *nodes) { (*x)[9].Parent, (*x)[8].Parent = 9, 8 }, api.ErrLarge},
	}
	base := func() nodes {
		out := chain(10)
		out[8].Parent, out[9].Parent = 0, 0
		return out
	}
	climb(t, base, func(x nodes) api.Fault { return CheckFrame(x) }, rungs)
}

// TestWays holds Above, Within and Meeting (C1).
func TestWays(t *testing.T) {
	l := nodesIn(t, beings)
	for code, want := range map[int]string{10: "[]", 20: "[10]", 21: "[20 10]", 25: "[20 10]", 30: "[10]", 5: "[]", 6: "[5]"} {
		got, fault := Above(l, code)
		is(t, show("Above", code), show(got, fault), want+" 0")
	}
	for code, want := range map[int]string{10: "[10 20 21 25 30]", 20: "[20 21 25]", 21: "[21]", 30: "[30]", 5: "[5 6]", 6: "[6]"} {
		got, fault := Within(l, code)
		is(t, show("Within", code), show(got, fault), want+" 0")
	}
	for _, x := range []struct {
		a, b int
		want string
	}{
		{21, 21, "21 0"}, {10, 10, "10 0"}, {21, 25, "20 2"}, {21, 20, "20 1"}, {21, 10, "10 2"}, {21, 30, "10 3"}, {20, 30, "10 2"},
		{10, 5, "0 2"}, {21, 5, "0 4"}, {21, 6, "0 5"}, {10, 6, "0 3"}, {30, 6, "0 4"},
	} {
		code, distance, fault := Meeting(l, x.a, x.b)
		is(t, show("Meeting", x.a, x.b), show(code, distance, fault), x.want+" 0")
		code, distance, fault = Meeting(l, x.b, x.a)
		is(t, show("Meeting", x.b, x.a), show(code, distance, fault), x.want+" 0")
	}
	deep := append(chain(8), api.Node{Code: 9, Title: "t"})
	for i := 10; i <= 16; i++ {
		deep = append(deep, api.Node{Code: i, Parent: i - 1, Title: "t"})
	}
	code, distance, fault := Meeting(deep, 8, 16)
	is(t, "the greatest distance", show(code, distance, fault), "0 16 0")
	above, fault := Above(deep, 16)
	is(t, "Above from level 8", show(above, fault), "[15 14 13 12 11 10 9] 0")
	upward := []api.Node{{Code: 1, Parent: 3, Title: "t"}, {Code: 2, Parent: 1, Title: "t"}, {Code: 3, Title: "t"}}
	within, fault := Within(upward, 1)
	is(t, "Within of a node ahead of the one above it", show(within, fault), "[1 2] 0")
	within, fault = Within(upward, 3)
	is(t, "Within of the last one", show(within, fault), "[1 2 3] 0")
}

// TestBoundsOfCodes holds that all functions know the least and the greatest code that there can be.
func TestBoundsOfCodes(t *testing.T) {
	l := []api.Node{{Code: 1, Parent: 999, Title: "a"}, {Code: 999, Title: "b"}}
	above, fault := Above(l, 1)
	is(t, "Above", show(above, fault), "[999] 0")
	within, fault := Within(l, 999)
	is(t, "Within", show(within, fault), "[1 999] 0")
	code, distance, fault := Meeting(l, 999, 1)
	is(t, "Meeting", show(code, distance, fault), "999 1 0")
	c := api.Coder{Nodes: l, Rules: []api.CodeRule{{With: []string{"cat"}, Code: 999}}, Examples: []api.Example{{Text: "dog", Code: 999}, {Text: "dog", Code: 1}}}
	proposals, fault := Propose(c, "dog")
	is(t, "Propose by examples", show(proposals, fault), "[{1 {1 2} -1} {999 {1 2} -1}] 0")
	proposals, fault = Propose(c, "cat")
	is(t, "Propose by a rule", show(proposals, fault), "[{999 {1 1} 0}] 0")
	codings := codingsIn(t, "1 1 1, 1 2 999")
	finals, fault := Finals(l, codings)
	is(t, "Finals", show(finals, fault), "[{1 999 3}] 0")
	confusions, fault := Confusions(l, codings, 1, 2)
	is(t, "Confusions", show(confusions, fault), "[{1 999 1}] 0")
	lifted, fault := Lift(l, codings, 1)
	is(t, "Lift", show(lifted, fault), "[{1 1 999} {1 2 999}] 0")
	carried, left, fault := Recode(l, l, []api.Move{{From: 1, To: 999}, {From: 999, To: 1}}, codings)
	is(t, "Recode", show(carried, left, fault), "[{1 1 999} {1 2 1}] [] 0")
}

// TestCodesOfNone holds that codes that a frame does not have are refused, behind the errors of the frame.
func TestCodesOfNone(t *testing.T) {
	l := nodesIn(t, beings)
	for _, code := range []int{0, -1, 1, 7, 999, 1000, 1 << 62, -1 << 63} {
		list, fault := Above(l, code)
		refuses(t, show("Above", code), api.ErrName, list, fault)
		list, fault = Within(l, code)
		refuses(t, show("Within", code), api.ErrName, list, fault)
		at, distance, fault := Meeting(l, code, 10)
		refuses(t, show("Meeting", code, 10), api.ErrName, at, distance, fault)
		at, distance, fault = Meeting(l, 10, code)
		refuses(t, show("Meeting", 10, code), api.ErrName, at, distance, fault)
		at, distance, fault = Meeting(l, code, code)
		refuses(t, show("Meeting", code, code), api.ErrName, at, distance, fault)
		list, fault = Above(chain(9), code)
		refuses(t, "Above in a frame with an error", api.ErrLarge, list, fault)
	}
}

// TestFramesFirst holds that all functions with a frame first have its error, whatever else is wrong.
func TestFramesFirst(t *testing.T) {
	loop := []api.Node{{Code: 1, Parent: 1, Title: "a"}}
	c := api.Coder{Nodes: loop, Stops: []string{""}}
	codings := []api.Coding{{}}
	long := strings.Repeat("a", 1001)
	bad := api.Ratio{}
	for what, f := range map[string]func() []any{
		"Text":       func() []any { x, f := Text(loop); return []any{x, f} },
		"Above":      func() []any { x, f := Above(loop, 1); return []any{x, f} },
		"Within":     func() []any { x, f := Within(loop, 0); return []any{x, f} },
		"Meeting":    func() []any { x, y, f := Meeting(loop, 1, 1); return []any{x, y, f} },
		"CheckCoder": func() []any { return []any{CheckCoder(c)} },
		"Words":      func() []any { x, f := Words(c, long); return []any{x, f} },
		"Propose":    func() []any { x, f := Propose(c, long); return []any{x, f} },
		"Automatic":  func() []any { x, y, f := Automatic(c, long, bad, bad); return []any{x, y, f} },
		"Quality":    func() []any { x, y, z, f := Quality(c, bad, bad); return []any{x, y, z, f} },
		"CheckCodings": func() []any {
			return []any{CheckCodings(loop, codings)}
		},
		"Finals":     func() []any { x, f := Finals(loop, codings); return []any{x, f} },
		"Confusions": func() []any { x, f := Confusions(loop, codings, 0, 0); return []any{x, f} },
		"Kappa":      func() []any { x, f := Kappa(loop, codings, 0, 0); return []any{x, f} },
		"Alpha":      func() []any { x, f := Alpha(loop, codings, true); return []any{x, f} },
		"Lift":       func() []any { x, f := Lift(loop, codings, 0); return []any{x, f} },
		"Recode":     func() []any { x, y, f := Recode(loop, nil, []api.Move{{}}, codings); return []any{x, y, f} },
	} {
		refuses(t, what, api.ErrLoop, f()...)
	}
}
