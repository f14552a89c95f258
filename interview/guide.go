package interview

import (
	"slices"

	"canvass/api"
	"canvass/fresh"
	"canvass/quest"
	"canvass/value"
)

// guide is a form made ready to be gone along, often, with any seeds.
type guide struct {
	blank   api.Scene
	lists   map[string][]api.Option
	entries []*entry // in the order of F1
	named   map[string]*entry
	board   value.Board // the scene as it is on the way
	start   visit       // goes along all items
}

// entry is an item where it stands.
type entry struct {
	api.Item
	number int // in the order
	loops  []string
}

// visit goes along an item at the row at hand, and reports whether the route goes on behind it.
type visit func(t *trip) bool

// guideFor returns the guide of a form, or the errors that all functions with a form and a seed have first.
func guideFor(f api.Form, seed string) (*guide, api.Fault) {
	g, fault := guideOf(f)
	if fault != api.OK {
		return nil, fault
	}
	if fault := CheckSeed(seed); fault != api.OK {
		return nil, fault
	}
	return g, api.OK
}

// guideOf returns the guide of a form, or the error of quest.Check for it.
func guideOf(f api.Form) (*guide, api.Fault) {
	blank, fault := quest.Blank(f)
	if fault != api.OK {
		return nil, fault
	}
	option := api.Cell{Name: quest.OptionName, Kind: api.Choice}
	board, fault := value.BoardOf(slices.Concat(blank.Cells, []api.Cell{option}), blank.Loops)
	if fault != api.OK {
		return nil, fault
	}
	g := &guide{blank: blank, lists: map[string][]api.Option{}, named: map[string]*entry{}, board: board}
	own := fresh.Form(f)
	for _, list := range own.Lists {
		g.lists[list.Name] = list.Options
	}
	g.start = inOrder(g.visits(own.Items, nil))
	return g, api.OK
}

// CheckSeed says whether a text can be the seed of an interview.
func CheckSeed(seed string) api.Fault {
	if len(seed) > api.MaxSeed {
		return api.ErrLarge
	}
	for i := range len(seed) {
		if seed[i] < 33 || seed[i] > 126 {
			return api.ErrRange
		}
	}
	return api.OK
}

// visits returns a visit for each of some items within loops.
func (g *guide) visits(items []api.Item, loops []string) []visit {
	out := make([]visit, len(items))
	for i, item := range items {
		x := &entry{Item: item, number: len(g.entries), loops: loops}
		g.entries, g.named[item.Name] = append(g.entries, x), x
		out[i] = g.visitOf(x)
	}
	return out
}

// inOrder makes one visit of several ones.
func inOrder(visits []visit) visit {
	return func(t *trip) bool {
		for _, visit := range visits {
			if !visit(t) {
				return false
			}
		}
		return true
	}
}

func (g *guide) visitOf(x *entry) visit {
	enter := g.entryTo(x)
	if len(x.If) == 0 {
		return enter
	}
	isTrue := g.isTrue(x.If[0], x.loops)
	return func(t *trip) bool { return !isTrue(t.row) || enter(t) }
}

// entryTo returns the visit of an item whose If is true.
func (g *guide) entryTo(x *entry) visit {
	switch x.Kind {
	case api.ItemPage:
		return g.page(x)
	case api.ItemBlock:
		return g.block(x)
	case api.ItemLoop:
		return g.loop(x)
	case api.ItemQuestion:
		return g.question(x)
	case api.ItemCompute:
		return g.compute(x)
	}
	return func(t *trip) bool {
		t.route.End = x.Name
		return false
	}
}

// told returns a function that tells the value of an expression in the scene as it is then. quest.Check holds that the expression fits, so there are no errors.
func (g *guide) told(e api.Expr, loops []string) func(row []int) api.Value {
	meaning, _ := g.board.Meaning(e, loops)
	return func(row []int) api.Value {
		v, _ := meaning(row)
		return v
	}
}

// isTrue is told for a condition.
func (g *guide) isTrue(e api.Expr, loops []string) func(row []int) bool {
	tell := g.told(e, loops)
	return func(row []int) bool { return tell(row).N == 1 }
}

func (g *guide) page(x *entry) visit {
	inner := inOrder(g.visits(x.Items, x.loops))
	return func(t *trip) bool {
		t.page = keyAt(x, t.row)
		t.route.Pages = append(t.route.Pages, keyAt(x, t.row))
		goesOn := inner(t)
		t.page = api.Key{}
		return goesOn
	}
}

func (g *guide) block(x *entry) visit {
	visits := g.visits(x.Items, x.loops)
	return func(t *trip) bool {
		order, _ := quest.ArrangedBy(x.Item, t.seed, t.row)
		for _, n := range order {
			if !visits[n](t) {
				return false
			}
		}
		return true
	}
}

func (g *guide) loop(x *entry) visit {
	numbers := g.numbers(x)
	inner := inOrder(g.visits(x.Items, slices.Concat(x.loops, []string{x.Name})))
	return func(t *trip) bool {
		rows := api.Rows{Loop: x.Name, Row: slices.Clone(t.row), Numbers: numbers(t.row)}
		if !t.addRows(rows) {
			return false
		}
		g.board.Set(rows)
		for _, n := range rows.Numbers {
			t.row = append(t.row, n)
			goesOn := inner(t)
			t.row = t.row[:len(t.row)-1]
			if !goesOn {
				return false
			}
		}
		return true
	}
}

// numbers returns a function that tells the numbers of the rows of a loop.
func (g *guide) numbers(x *entry) func(row []int) []int {
	if len(x.Count) == 0 {
		over := g.told(api.Expr{Kind: api.XAnswer, Name: x.Over}, x.loops)
		return func(row []int) []int { return over(row).Set }
	}
	count := g.told(x.Count[0], x.loops)
	return func(row []int) []int {
		var numbers []int
		for n := range min(count(row).N/unit, api.MaxRows) {
			numbers = append(numbers, n+1)
		}
		return numbers
	}
}

// unit is the N of the Number 1.
const unit = 10000

func (g *guide) compute(x *entry) visit {
	tell := g.told(x.Compute[0], x.loops)
	return func(t *trip) bool {
		a := t.ask(x)
		a.Value = tell(t.row)
		g.bind(a)
		return t.add(a)
	}
}
