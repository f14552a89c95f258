package quest

import (
	"slices"

	"canvass/api"
	"canvass/value"
)

// plan is a form whose items are told by where they stand.
type plan struct {
	form    api.Form
	lists   map[string]api.List
	entries []*entry // in the order of F1
	named   map[string]*entry
	sight   value.Sight // all loops, the questions, `option`, and the computed values whose kind is known
}

// entry is an item where it stands.
type entry struct {
	item   api.Item
	kind   int      // of the values of a cell
	path   []int    // the numbers, in the order, of the items around it, the outermost one first, and its own
	loops  []string // those around it
	onPage bool
}

// planOf returns the plan of a form that Check accepts.
func planOf(f api.Form) (*plan, api.Fault) {
	p := &plan{form: f, lists: map[string]api.List{}, named: map[string]*entry{}}
	for _, check := range []func() api.Fault{p.checkHead, p.checkLists, p.checkSize, p.checkItems, p.checkUses} {
		if fault := check(); fault != api.OK {
			return nil, fault
		}
	}
	return p, api.OK
}

// findEntry returns the item with a name where it stands.
func findEntry(f api.Form, name string) (*entry, api.Fault) {
	p, fault := planOf(f)
	if fault != api.OK {
		return nil, fault
	}
	if p.named[name] == nil {
		return nil, api.ErrName
	}
	return p.named[name], api.OK
}

// enter gathers items that are directly within an item; at the outermost level, around is nil.
func (p *plan) enter(items []api.Item, around *entry) {
	for _, item := range items {
		x := &entry{item: item}
		if around != nil {
			x.path, x.loops, x.onPage = slices.Clone(around.path), around.inside(), around.onPage || around.item.Kind == api.ItemPage
		}
		x.path = append(x.path, len(p.entries))
		p.entries = append(p.entries, x)
		p.enter(item.Items, x)
	}
}

// inside returns the loops of the items directly within an item.
func (x *entry) inside() []string {
	if x.item.Kind != api.ItemLoop {
		return x.loops
	}
	return append(slices.Clone(x.loops), x.item.Name)
}

func (x *entry) isCell() bool {
	return x.item.Kind == api.ItemQuestion || x.item.Kind == api.ItemCompute
}

func (x *entry) isCoded() bool { return isCoded(x.item.Answer.Kind) }

// isCoded reports whether values of a kind consist of codes.
func isCoded(kind int) bool { return kind == api.Choice || kind == api.Choices }

// isAhead reports whether a cell or loop stands ahead of an item (F2).
func (p *plan) isAhead(a, x *entry) bool {
	common := 0
	for common < min(len(a.path), len(x.path)) && a.path[common] == x.path[common] {
		common++
	}
	if common == len(a.path) || common == len(x.path) || a.path[common] > x.path[common] {
		// One is around the other one, or they are the same; or a comes later.
		return false
	}
	return common == 0 || !p.entries[a.path[common-1]].item.Shuffle
}

func (p *plan) cells() []api.Cell {
	var cells []api.Cell
	for _, x := range p.entries {
		if x.isCell() {
			cells = append(cells, api.Cell{Name: x.item.Name, Kind: x.kind, Loops: slices.Clone(x.loops)})
		}
	}
	return cells
}

func (p *plan) nests() []api.Nest {
	var nests []api.Nest
	for _, x := range p.entries {
		if x.item.Kind == api.ItemLoop {
			nests = append(nests, api.Nest{Name: x.item.Name, Loops: slices.Clone(x.loops)})
		}
	}
	return nests
}
