package code

import (
	"testing"

	"canvass/api"
)

// atMost returns codings of so many cases by one coder each.
func atMost(count int) []api.Coding {
	out := make([]api.Coding, count)
	for i := range out {
		out[i] = api.Coding{Case: i + 1, Coder: 1, Code: 10}
	}
	return out
}

func TestCheckCodings(t *testing.T) {
	l := nodesIn(t, beings)
	for text, want := range map[string]api.Fault{
		"": 0, "1 1 5": 0, "9223372036854775807 50 30": 0, "1 1 5, 1 2 5, 1 50 6, 2 1 10": 0,
		"0 1 5": 1, "-1 1 5": 1, "1 0 5": 1, "1 51 5": 1, "1 -1 5": 1,
		"1 1 0": 5, "1 1 7": 5, "1 1 -5": 5, "1 1 1000": 5,
		"2 1 5, 1 1 5": 7, "1 2 5, 1 1 5": 7, "2 1 5, 1 2 5": 7, "1 1 5, 1 1 5": 6, "1 1 5, 1 1 6": 6, "1 1 5, 1 2 5, 1 1 6": 7,
		// The errors of an element in their order, and an element ahead of the next one.
		"2 1 5, 0 1 7": 1, "2 1 5, 1 0 7": 1, "2 1 5, 1 1 7": 5, "1 1 5, 1 1 7": 5, "1 1 5, 1 1 5, 0 1 5": 6, "2 1 5, 1 1 5, 0 1 5": 7, "1 1 7, 0 1 5": 5,
	} {
		refuses(t, text, want, CheckCodings(l, codingsIn(t, text)))
	}
	is(t, "20000 codings", show(CheckCodings(l, atMost(20000))), "0")
	many := atMost(20001)
	many[0].Case = 0
	is(t, "20001 codings", show(CheckCodings(l, many)), "2")
	is(t, "20001 codings without a frame", show(CheckCodings(nil, many)), "9")
}

// TestCodingsFirst holds that functions with codings have their error ahead of others.
func TestCodingsFirst(t *testing.T) {
	l, bad := nodesIn(t, beings), codingsIn(t, "1 1 5, 1 1 5")
	finals, fault := Finals(l, bad)
	refuses(t, "Finals", api.ErrTwice, finals, fault)
	confusions, fault := Confusions(l, bad, 0, 51)
	refuses(t, "Confusions", api.ErrTwice, confusions, fault)
	kappa, fault := Kappa(l, bad, 0, 51)
	refuses(t, "Kappa", api.ErrTwice, kappa, fault)
	alpha, fault := Alpha(l, bad, false)
	refuses(t, "Alpha", api.ErrTwice, alpha, fault)
	lifted, fault := Lift(l, bad, 0)
	refuses(t, "Lift", api.ErrTwice, lifted, fault)
	// Those of Recode come behind the errors of its moves.
	carried, left, fault := Recode(l, l, nil, bad)
	refuses(t, "Recode", api.ErrTwice, carried, left, fault)
}

func TestFinals(t *testing.T) {
	l := nodesIn(t, beings)
	for _, x := range []struct{ what, codings, want string }{
		{"no codings", "", "[]"},
		{"one coding", "7 3 21", "[{7 21 1}]"},
		{"all equal", "1 1 21, 1 2 21, 1 3 21", "[{1 21 1}]"},
		{"most equal", "1 1 21, 1 2 6, 1 3 21", "[{1 21 2}]"},
		{"half are not most", "1 1 21, 1 2 21, 1 3 6, 1 4 6", "[{1 0 4}]"},
		{"most equal, and all below another one", "1 1 21, 1 2 21, 1 3 25", "[{1 21 2}]"},
		{"most have a code, and others are within", "1 1 20, 1 2 20, 1 3 21", "[{1 20 2}]"},
		{"the lowest node above", "1 1 21, 1 2 25", "[{1 20 3}]"},
		{"a code and one below it", "1 1 20, 1 2 21", "[{1 20 3}]"},
		{"a code above all others", "1 1 10, 1 2 21", "[{1 10 3}]"},
		{"further up", "1 1 21, 1 2 30", "[{1 10 3}]"},
		{"most below a node", "1 1 21, 1 2 25, 1 3 6", "[{1 20 3}]"},
		{"half below a node, but most below one above it", "1 1 21, 1 2 25, 1 3 30, 1 4 6", "[{1 10 3}]"},
		{"half below a node", "1 1 21, 1 2 25, 1 3 5, 1 4 6", "[{1 0 4}]"},
		{"nothing in common", "1 1 10, 1 2 5", "[{1 0 4}]"},
		{"most within a code that one has", "1 1 20, 1 2 21, 1 3 25, 1 4 6, 1 5 5", "[{1 20 3}]"},
		{"cases in order", "1 1 21, 2 9 6, 2 50 5, 40 1 21, 40 2 5", "[{1 21 1} {2 5 3} {40 0 4}]"},
	} {
		got, fault := Finals(l, codingsIn(t, x.codings))
		is(t, x.what, show(got, fault), x.want+" 0")
	}
}

func TestLift(t *testing.T) {
	l := nodesIn(t, beings)
	codings := codingsIn(t, "1 1 21, 1 2 20, 2 1 10, 3 1 6, 3 2 5, 3 3 30")
	for level, want := range map[int]string{
		1: "[{1 1 10} {1 2 10} {2 1 10} {3 1 5} {3 2 5} {3 3 10}]", 2: "[{1 1 20} {1 2 20} {2 1 10} {3 1 6} {3 2 5} {3 3 30}]", 3: show(codings), 4: show(codings), 8: show(codings),
	} {
		got, fault := Lift(l, codings, level)
		is(t, show("to level", level), show(got, fault), want+" 0")
		is(t, "codings again", show(CheckCodings(l, got)), "0")
	}
	for _, level := range []int{0, -1, 9, 1 << 62} {
		got, fault := Lift(l, codings, level)
		refuses(t, show("to level", level), api.ErrRange, got, fault)
	}
	got, fault := Lift(chain(8), []api.Coding{{Case: 1, Coder: 1, Code: 8}}, 1)
	is(t, "from level 8", show(got, fault), "[{1 1 1}] 0")
	got, fault = Lift(l, nil, 1)
	is(t, "no codings", show(got, fault), "[] 0")
}

func TestRecode(t *testing.T) {
	old := nodesIn(t, beings)
	next := nodesIn(t, "5 plants\n6 trees\n10 beasts\n  20 dogs\n  21 dogs of France\n  31 cats\n")
	codings := codingsIn(t, "1 1 5, 1 2 6, 1 3 10, 2 1 20, 2 2 21, 2 3 25, 3 1 30, 3 2 5")
	for _, x := range []struct {
		what    string
		moves   []api.Move
		carried string
		left    string
	}{
		{"no moves", nil, "[{1 1 5} {1 2 6} {2 1 20} {3 2 5}]", "[{1 3 10} {2 2 21} {2 3 25} {3 1 30}]"},
		{"some moves", []api.Move{{From: 10, To: 10}, {From: 21, To: 20}, {From: 30, To: 31}}, "[{1 1 5} {1 2 6} {1 3 10} {2 1 20} {2 2 20} {3 1 31} {3 2 5}]", "[{2 3 25}]"},
		{"moves of codes that would stay", []api.Move{{From: 5, To: 0}, {From: 6, To: 10}, {From: 25, To: 0}}, "[{1 2 10} {2 1 20}]", "[{1 1 5} {1 3 10} {2 2 21} {2 3 25} {3 1 30} {3 2 5}]"},
		{"a move to itself", []api.Move{{From: 6, To: 5}, {From: 20, To: 20}}, "[{1 1 5} {1 2 5} {2 1 20} {3 2 5}]", "[{1 3 10} {2 2 21} {2 3 25} {3 1 30}]"},
	} {
		carried, left, fault := Recode(old, next, x.moves, codings)
		is(t, x.what, show(carried, left, fault), x.carried+" "+x.left+" 0")
		is(t, "carried codings", show(CheckCodings(next, carried)), "0")
		is(t, "left codings", show(CheckCodings(old, left)), "0")
	}
	carried, left, fault := Recode(old, next, nil, nil)
	is(t, "no codings", show(carried, left, fault), "[] [] 0")
}

// TestRecodeFaults holds the errors of Recode and their order (C9).
func TestRecodeFaults(t *testing.T) {
	type call struct {
		old, next []api.Node
		moves     []api.Move
		codings   []api.Coding
	}
	base := func() call {
		return call{nodesIn(t, beings), nodesIn(t, "7 all\n"), []api.Move{{From: 5, To: 7}, {From: 6, To: 0}, {From: 10, To: 7}}, codingsIn(t, "1 1 5, 1 2 6, 2 1 30")}
	}
	recode := func(x call) api.Fault {
		carried, left, fault := Recode(x.old, x.next, x.moves, x.codings)
		refuses(t, "Recode", fault, carried, left, fault)
		return fault
	}
	climb(t, base, recode, []rung[call]{
		{"no old frame", func(x *call) { x.old = nil }, api.ErrNone},
		{"an error of the new frame", func(x *call) { x.next = chain(9) }, api.ErrLarge},
		{"a move from no code", func(x *call) { x.moves[0].From = 7 }, api.ErrName},
		{"moves that do not increase", func(x *call) { x.moves[0].From, x.moves[1].From = 6, 6 }, api.ErrOrder},
		{"a later move to no code", func(x *call) { x.moves[2].To = 10 }, api.ErrName},
		{"many codings", func(x *call) { x.codings = atMost(20001) }, api.ErrLarge},
		{"a coding of no case", func(x *call) { x.codings[0].Case = 0 }, api.ErrRange},
		{"a coding with a code of the new frame", func(x *call) { x.codings[0].Code = 7 }, api.ErrName},
		{"codings that stand there twice", func(x *call) { x.codings[1].Coder = 1 }, api.ErrTwice},
	})
	for _, m := range []api.Move{{From: 0, To: 7}, {From: -1, To: 7}, {From: 1000, To: 7}, {From: 10, To: -1}, {From: 10, To: 5}, {From: 10, To: 1000}} {
		x := base()
		x.moves[2] = m
		is(t, show("the move", m), show(recode(x)), "5")
	}
	x := base()
	x.moves = []api.Move{{From: 10, To: 7}, {From: 6, To: 7}}
	is(t, "moves downward", show(recode(x)), "7")
	x.moves[1].To = 8
	is(t, "no code ahead of the order", show(recode(x)), "5")
}
