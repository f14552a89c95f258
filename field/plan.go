package field

import (
	"slices"

	"canvass/api"
	"canvass/interview"
	"canvass/value"
)

// plan is a plan that CheckPlan accepts, made ready for many events.
type plan struct {
	interview.Guide
	board   value.Board   // the scene behind a route
	conds   []func() bool // whether If of each quota is true in it
	targets []int
}

// planOf returns a plan made ready, or the error of CheckPlan (L1).
func planOf(p api.Plan) (*plan, api.Fault) {
	guide, fault := interview.GuideOf(p.Form)
	if fault != api.OK {
		return nil, fault
	}
	if len(p.Quotas) > api.MaxCells {
		return nil, api.ErrLarge
	}
	ready, names := &plan{Guide: guide, board: guide.Board()}, map[string]bool{}
	for _, q := range p.Quotas {
		if fault := ready.addQuota(q, names); fault != api.OK {
			return nil, fault
		}
	}
	return ready, api.OK
}

// addQuota adds a quota to those with some names, or returns the error that it has.
func (p *plan) addQuota(q api.Quota, names map[string]bool) api.Fault {
	if !value.IsName(q.Name) {
		return api.ErrName
	}
	if names[q.Name] {
		return api.ErrTwice
	}
	names[q.Name] = true
	kind, fault := p.board.TypeOf(q.If, nil)
	if fault != api.OK {
		return fault
	}
	if kind != api.Bool {
		return api.ErrType
	}
	if q.Target < 0 || q.Target > api.MaxTarget {
		return api.ErrRange
	}
	tell, fault := p.board.Meaning(q.If, nil)
	if fault != api.OK {
		return fault
	}
	p.targets = append(p.targets, q.Target)
	p.conds = append(p.conds, func() bool {
		v, _ := tell(nil)
		return v.N == 1
	})
	return api.OK
}

// cellFor is CellOf (L2).
func (p *plan) cellFor(seed string, given []api.Given) (int, api.Fault) {
	if fault := interview.CheckSeed(seed); fault != api.OK {
		return 0, fault
	}
	answers, fault := p.AnswersOf(given)
	if fault != api.OK {
		return 0, fault
	}
	route, fault := p.RouteOf(seed, answers)
	if fault != api.OK {
		return 0, fault
	}
	return p.cellOf(route), api.OK
}

// cellOf returns the cell of the answers that have a route; -1 if there is none (L2).
func (p *plan) cellOf(route api.Route) int {
	if len(p.conds) == 0 {
		return -1
	}
	interview.Lay(route, p.board)
	return slices.IndexFunc(p.conds, func(isTrue func() bool) bool { return isTrue() })
}

func (p *plan) isCell(cell int) bool { return cell >= 0 && cell < len(p.targets) }
