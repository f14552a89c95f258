package study

import (
	"slices"
	"strconv"

	"canvass/api"
	"canvass/field"
	"canvass/interview"
	"canvass/quest"
	"canvass/value"
)

// allCommands returns the commands by their names (T12). TO is a D that need not be one of the devices of the console.
func (c *console) allCommands() map[string]command {
	return map[string]command{
		"quota":    {"NAME N EXPR", c.quota},
		"case":     {"ID TO SEED", c.create},
		"assign":   {"ID TO", c.assign},
		"off":      {"TO", c.writeOff},
		"permit":   {"NAME TO", c.permit},
		"answer":   {"D ID KEY V", c.answer},
		"complete": {"D ID", c.complete},
		"return":   {"D P", c.giveBack},
		"sync":     {"D D", c.sync},
		"state":    {"D", c.state},
		"show":     {"D ID", c.show},
		"open":     {"D ID", c.open},
		"say":      {"D ID KEY N", c.say},
		"data":     {"", c.data},
		"count":    {"EXPR", c.count},
		"table":    {"NAME NAME", c.table},
		"dead":     {"", func(words) ([]string, api.Fault) { return c.dead() }},
	}
}

func (c *console) centre() *field.Device { return c.devices[0] }

// device returns the device at which a command is executed.
func (c *console) device(w words) *field.Device { return c.devices[w.devices[0]] }

// digits returns the decimal digits of numbers.
func digits(l ...int) []string {
	out := make([]string, len(l))
	for i, n := range l {
		out[i] = strconv.Itoa(n)
	}
	return out
}

func (c *console) quota(w words) ([]string, api.Fault) {
	if len(c.devices) > 0 {
		return nil, api.ErrState
	}
	e, _, fault := value.Parse(w.expr)
	if fault != api.OK {
		return nil, fault
	}
	next := c.plan
	next.Quotas = slices.Concat(c.plan.Quotas, []api.Quota{{Name: w.names[0], If: e, Target: w.numbers[0]}})
	if fault := field.CheckPlan(next); fault != api.OK {
		return nil, fault
	}
	c.plan = next
	return nil, api.OK
}

func (c *console) create(w words) ([]string, api.Fault) {
	return nil, c.centre().Create(w.numbers[0], w.names[0], w.numbers[1], 0)
}

func (c *console) assign(w words) ([]string, api.Fault) {
	return nil, c.centre().Assign(w.numbers[0], w.numbers[1], 0)
}

func (c *console) writeOff(w words) ([]string, api.Fault) {
	return nil, c.centre().WriteOff(w.numbers[0], 0)
}

func (c *console) permit(w words) ([]string, api.Fault) {
	cell := slices.IndexFunc(c.plan.Quotas, func(q api.Quota) bool { return q.Name == w.names[0] })
	if cell < 0 {
		return nil, api.ErrName
	}
	permit, fault := c.centre().Grant(cell, w.numbers[0], 0)
	return digits(permit), fault
}

func (c *console) answer(w words) ([]string, api.Fault) {
	return nil, c.device(w).Answer(w.numbers[0], api.Given{Key: w.key, Value: w.value}, 0)
}

func (c *console) complete(w words) ([]string, api.Fault) {
	return nil, c.device(w).Complete(w.numbers[0], 0)
}

func (c *console) giveBack(w words) ([]string, api.Fault) {
	return nil, c.device(w).Return(w.numbers[0], 0)
}

func (c *console) sync(w words) ([]string, api.Fault) {
	from, to := c.device(w), c.devices[w.devices[1]]
	m, fault := from.Send(to.Known())
	if fault != api.OK {
		return nil, fault
	}
	if fault := to.Receive(m); fault != api.OK {
		return nil, fault
	}
	return digits(len(to.Events())), api.OK
}

func (c *console) state(w words) ([]string, api.Fault) {
	s := c.device(w).State()
	complete := 0
	for _, one := range s.Cases {
		if one.Complete {
			complete++
		}
	}
	return digits(slices.Concat([]int{len(s.Cases), complete, s.Refused}, s.Filled)...), api.OK
}

// caseAt returns what the device of a command knows of its case.
func (c *console) caseAt(w words) (api.CaseState, api.Fault) {
	cases := c.device(w).State().Cases
	n := slices.IndexFunc(cases, func(s api.CaseState) bool { return s.Case == w.numbers[0] })
	if n < 0 {
		return api.CaseState{}, api.ErrNone
	}
	return cases[n], api.OK
}

func (c *console) show(w words) ([]string, api.Fault) {
	s, fault := c.caseAt(w)
	if fault != api.OK {
		return nil, fault
	}
	var parts []string
	for _, g := range s.Given {
		parts = append(parts, keyText(g.Key), shown(g.Value))
	}
	return parts, api.OK
}

func (c *console) open(w words) ([]string, api.Fault) {
	s, fault := c.caseAt(w)
	if fault != api.OK {
		return nil, fault
	}
	route, fault := c.study.routeOf(s.Seed, s.Given)
	if fault != api.OK {
		return nil, fault
	}
	var parts []string
	for _, a := range route.Asked {
		if a.Open != api.OK {
			parts = append(parts, keyText(a.Key))
		}
	}
	return parts, api.OK
}

func (c *console) say(w words) ([]string, api.Fault) {
	s, fault := c.caseAt(w)
	if fault != api.OK {
		return nil, fault
	}
	scene, fault := interview.SceneOf(c.plan.Form, s.Seed, s.Given)
	if fault != api.OK {
		return nil, fault
	}
	text, fault := quest.Spoken(c.plan.Form, w.key.Name, w.numbers[1], scene, w.key.Row)
	return []string{text}, fault
}

// dataSet returns the data set of the study: the complete cases at the centre.
func (c *console) dataSet() []api.Datum {
	var out []api.Datum
	for _, s := range c.centre().State().Cases {
		if s.Complete {
			out = append(out, api.Datum{Id: s.Case, Seed: s.Seed, Weight: api.Ratio{Num: "1", Den: "1"}, Given: s.Given})
		}
	}
	return out
}

func (c *console) data(words) ([]string, api.Fault) {
	l := c.dataSet()
	text, fault := c.study.dataText(l)
	return digits(len(l), len(text)), fault
}

func (c *console) count(w words) ([]string, api.Fault) {
	e, _, fault := value.Parse(w.expr)
	if fault != api.OK {
		return nil, fault
	}
	if fault := c.study.checkExpr(e, api.Bool); fault != api.OK {
		return nil, fault
	}
	count := 0
	isTrue := c.study.areTrue([]api.Expr{e})[0]
	fault = c.study.eachScene(c.dataSet(), func(int) {
		if isTrue() {
			count++
		}
	})
	return digits(count), fault
}

func (c *console) table(w words) ([]string, api.Fault) {
	var sides [2][]api.Line
	for i := range sides {
		lines, fault := c.study.linesOf(w.names[i], nil)
		if fault != api.OK {
			return nil, fault
		}
		sides[i] = lines
	}
	counted, fault := c.study.count(api.Table{Rows: sides[0], Columns: sides[1]}, c.dataSet())
	if fault != api.OK {
		return nil, fault
	}
	var parts []string
	for _, row := range counted.Cells {
		for _, cell := range row {
			parts = append(parts, strconv.Itoa(cell.Cases))
		}
	}
	return parts, api.OK
}
