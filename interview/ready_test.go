package interview

import (
	"fmt"
	"math/rand"
	"reflect"
	"strings"
	"testing"

	"canvass/api"
	"canvass/quest"
	"canvass/value"
)

// TestGuideByChance holds that one guide tells for many seeds and answers, in turn, what the functions tell.
func TestGuideByChance(t *testing.T) {
	for n := range int64(60) {
		r := rand.New(rand.NewSource(n))
		f := randomForm(r)
		if quest.Check(f) != api.OK {
			continue
		}
		g, fault := GuideOf(f)
		if fault != api.OK {
			t.Fatal("GuideOf", fault)
		}
		board := g.Board()
		for turn := range 6 {
			seed, given := fmt.Sprint("s", turn%3), randomAnswers(r, f)
			holdGuide(t, g, f, seed, given)
			holdBoard(t, g, board, f, seed, given)
		}
	}
}

func holdGuide(t *testing.T, g Guide, f api.Form, seed string, given []api.Given) {
	t.Helper()
	a, fault := g.AnswersOf(given)
	want, other := RouteOf(f, seed, given)
	if fault != api.OK {
		if fault != other {
			t.Error("AnswersOf", fault, "not", other)
		}
		return
	}
	route, fault := g.RouteOf(seed, a)
	if fault != other || !sameRoute(route, want) {
		t.Error("RouteOf", seed, fault, "not", other)
	}
	if data, fault := Data(f, seed, given); fault == api.OK && answersText(data) != answersText(g.DataOf(route)) {
		t.Error("DataOf", answersText(g.DataOf(route)), "not", answersText(data))
	}
}

// holdBoard holds that a board on which a route is laid is the scene behind it.
func holdBoard(t *testing.T, g Guide, board value.Board, f api.Form, seed string, given []api.Given) {
	t.Helper()
	scene, fault := SceneOf(f, seed, given)
	if fault != api.OK {
		return
	}
	a, _ := g.AnswersOf(given)
	route, _ := g.RouteOf(seed, a)
	Lay(route, board)
	var l []api.Expr
	for _, cell := range scene.Cells {
		answer := api.Expr{Kind: api.XAnswer, Name: cell.Name}
		asked := api.Expr{Kind: api.XOp, Op: api.OpAsked, Args: []api.Expr{answer}}
		if len(cell.Loops) == 0 {
			l = append(l, answer, asked)
		} else {
			l = append(l, api.Expr{Kind: api.XOver, Op: api.OverCount, Name: cell.Loops[0], Args: []api.Expr{asked}})
		}
	}
	for _, e := range l {
		want, fault := value.Eval(e, scene, nil, nil)
		tell, other := board.Meaning(e, nil)
		if fault != other {
			t.Error("Meaning", fault, other)
		}
		if fault != api.OK {
			continue
		}
		if v, _ := tell(nil); !sameValue(v, want) {
			t.Error("a value on the board is", v, "not", want)
		}
	}
	if _, fault := board.Meaning(api.Expr{Kind: api.XAnswer, Name: quest.OptionName}, nil); fault != api.ErrName {
		t.Error("the board has a cell for options", fault)
	}
}

// TestGuide holds the errors of a guide, and what it lists and accepts.
func TestGuide(t *testing.T) {
	f := listed(t, homeLines)
	wrong := f
	wrong.Version = 0
	if g, fault := GuideOf(wrong); fault != api.ErrRange || g.guide != nil {
		t.Error("GuideOf", fault)
	}
	g, fault := GuideOf(f)
	if fault != api.OK {
		t.Fatal("GuideOf", fault)
	}
	if blank, _ := quest.Blank(f); !sameScene(g.Blank(), blank) {
		t.Error("Blank", g.Blank())
	}
	for _, x := range givenErrors() {
		form := listed(t, givenLines)
		other, _ := GuideOf(form)
		if a, fault := other.AnswersOf(x.l); fault != x.want || fault != api.OK && a != nil || fault == api.OK && len(a) != len(x.l) {
			t.Error("AnswersOf", x.l, fault, "not", x.want)
		}
	}
	a, _ := g.AnswersOf(answers(t, "age.2=7 bye={#5} age.1=3 got=-"))
	if got := answersText(g.Listed(a)); got != "got=- age.1=3 age.2=7 bye={#5}" {
		t.Error("Listed", got)
	}
	for _, x := range []struct {
		name    string
		v       api.Value
		offered []int
	}{{"nobody", numberValue(1), nil}, {"start", numberValue(1), nil}, {"sum", numberValue(1), nil}, {"got", api.Value{}, nil}, {"got", choiceValue(1), nil}, {"got", choiceValue(1), []int{1}}, {"bye", choicesValue(3, 5), []int{3, 5}}, {"many", specialValue(2), nil}, {"many", api.Value{Kind: 9}, nil}} {
		if got, want := g.Accept(x.name, x.v, x.offered), quest.Accept(f, x.name, x.v, x.offered); got != want {
			t.Error("Accept", x, got, "not", want)
		}
	}
	for seed, want := range map[string]api.Fault{"": api.OK, strings.Repeat("~", 40): api.OK, strings.Repeat(" ", 41): api.ErrLarge, " ": api.ErrRange} {
		if fault := CheckSeed(seed); fault != want {
			t.Error("CheckSeed", seed, fault, "not", want)
		}
	}
}

// TestGuideMemory holds that a guide keeps nothing of its arguments, and gives out nothing of its own.
func TestGuideMemory(t *testing.T) {
	f, given := listed(t, homeLines), answers(t, "got=#1 many=2 age.2=7 bye={#5,#7}")
	want, _ := RouteOf(f, "s", given)
	g, _ := GuideOf(f)
	a, _ := g.AnswersOf(given)
	given[3].Value.Set[0], given[2].Key.Row[0], f.Items[0].Items[0].Answer.Need = 9, 1, false
	first, _ := g.RouteOf("s", a)
	seen := map[uintptr]bool{}
	for _, result := range []any{first, g.Blank(), g.Blank(), g.DataOf(first), g.Listed(a), g.Listed(a)} {
		eachList(reflect.ValueOf(result), func(list reflect.Value) {
			if seen[list.Pointer()] {
				t.Error("memory is shared", list)
			}
			seen[list.Pointer()] = true
		})
	}
	second, _ := g.RouteOf("s", a)
	if !sameRoute(first, want) || !sameRoute(second, want) {
		t.Error("RouteOf", routeText(first), routeText(second))
	}
}
