package study

import (
	"fmt"
	"math/rand"
	"slices"
	"strconv"
	"strings"
	"testing"

	"canvass/api"
	"canvass/field"
	"canvass/interview"
	"canvass/proof"
	"canvass/quest"
	"canvass/value"
)

// second is the console a second time: by the words of T12, and the listed functions alone. Its lines are such that each one has the form of a command.
type second struct {
	t       *testing.T
	form    api.Form
	quotas  []api.Quota
	begun   bool
	devices []*field.Device
}

func (s *second) plan() api.Plan { return api.Plan{Form: s.form, Quotas: s.quotas} }

// reply returns what a line replies.
func (s *second) reply(line string) string {
	w := strings.Split(line, " ")
	if w[0] != "quota" && !s.begun {
		s.begun = true
		for number := range 4 {
			d, fault := field.New(s.plan(), number)
			if fault != api.OK {
				s.t.Fatal("New", fault)
			}
			s.devices = append(s.devices, d)
		}
	}
	var out []any
	var fault api.Fault
	if slices.Contains([]string{"answer", "complete", "return", "sync", "state", "show", "open", "say"}, w[0]) {
		if s.n(w[1]) > 3 || w[0] == "sync" && s.n(w[2]) > 3 {
			return "error 1"
		}
		out, fault = s.atDevice(s.devices[s.n(w[1])], w)
	} else if slices.Contains([]string{"data", "count", "table", "dead"}, w[0]) {
		out, fault = s.ofData(w)
	} else {
		out, fault = s.atCentre(w)
	}
	if fault != api.OK {
		return "error " + strconv.Itoa(int(fault))
	}
	text := "ok"
	for _, x := range out {
		text += " " + fmt.Sprint(x)
	}
	return text
}

func (s *second) n(word string) int {
	n, err := strconv.Atoi(word)
	if err != nil {
		s.t.Fatal("no number", word)
	}
	return n
}

func (s *second) atCentre(w []string) ([]any, api.Fault) {
	if w[0] == "quota" {
		return nil, s.quota(w)
	}
	centre := s.devices[0]
	switch w[0] {
	case "case":
		return nil, centre.Create(s.n(w[1]), w[3], s.n(w[2]), 0)
	case "assign":
		return nil, centre.Assign(s.n(w[1]), s.n(w[2]), 0)
	case "off":
		return nil, centre.WriteOff(s.n(w[1]), 0)
	}
	for cell, q := range s.quotas {
		if q.Name == w[1] {
			permit, fault := centre.Grant(cell, s.n(w[2]), 0)
			return []any{permit}, fault
		}
	}
	return nil, api.ErrName
}

func (s *second) quota(w []string) api.Fault {
	if s.begun {
		return api.ErrState
	}
	e, _, fault := value.Parse(strings.Join(w[3:], " "))
	if fault != api.OK {
		return fault
	}
	before := s.quotas
	s.quotas = append(slices.Clone(before), api.Quota{Name: w[1], If: e, Target: s.n(w[2])})
	fault = field.CheckPlan(s.plan())
	if fault != api.OK {
		s.quotas = before
	}
	return fault
}

func (s *second) atDevice(d *field.Device, w []string) ([]any, api.Fault) {
	switch w[0] {
	case "answer":
		v, fault := value.Read(strings.Join(w[4:], " "))
		if fault != api.OK {
			s.t.Fatal("no value", w)
		}
		return nil, d.Answer(s.n(w[2]), api.Given{Key: s.key(w[3]), Value: v}, 0)
	case "complete":
		return nil, d.Complete(s.n(w[2]), 0)
	case "return":
		return nil, d.Return(s.n(w[2]), 0)
	case "sync":
		other := s.devices[s.n(w[2])]
		m, fault := d.Send(other.Known())
		if fault != api.OK || other.Receive(m) != api.OK {
			s.t.Fatal("sync", w)
		}
		return []any{len(other.Events())}, api.OK
	case "state":
		state, complete := d.State(), 0
		for _, c := range state.Cases {
			if c.Complete {
				complete++
			}
		}
		out := []any{len(state.Cases), complete, state.Refused}
		for _, n := range state.Filled {
			out = append(out, n)
		}
		return out, api.OK
	}
	for _, c := range d.State().Cases {
		if c.Case == s.n(w[2]) {
			return s.ofCase(c, w)
		}
	}
	return nil, api.ErrNone
}

func (s *second) key(word string) api.Key {
	words := strings.Split(word, ".")
	k := api.Key{Name: words[0]}
	for _, n := range words[1:] {
		k.Row = append(k.Row, s.n(n))
	}
	return k
}

func (s *second) ofCase(c api.CaseState, w []string) ([]any, api.Fault) {
	var out []any
	switch w[0] {
	case "show":
		for _, word := range strings.Fields(answersText(c.Given)) {
			at, text, _ := strings.Cut(word, "=")
			out = append(out, at, text)
		}
	case "open":
		route, fault := interview.RouteOf(s.form, c.Seed, c.Given)
		if fault != api.OK {
			return nil, fault
		}
		for _, a := range route.Asked {
			if a.Open != api.OK {
				out = append(out, keyText(a.Key))
			}
		}
	case "say":
		scene, fault := interview.SceneOf(s.form, c.Seed, c.Given)
		if fault != api.OK {
			return nil, fault
		}
		k := s.key(w[3])
		text, fault := quest.Spoken(s.form, k.Name, s.n(w[4]), scene, k.Row)
		return []any{text}, fault
	}
	return out, api.OK
}

func (s *second) ofData(w []string) ([]any, api.Fault) {
	var l []api.Datum
	for _, c := range s.devices[0].State().Cases {
		if c.Complete {
			l = append(l, api.Datum{Id: c.Case, Seed: c.Seed, Weight: parts("1"), Given: c.Given})
		}
	}
	var out []any
	switch w[0] {
	case "data":
		text, fault := DataText(s.form, l)
		return []any{len(l), len(text)}, fault
	case "count":
		e, _, fault := value.Parse(strings.Join(w[1:], " "))
		if fault != api.OK {
			return nil, fault
		}
		lines := []api.Line{{Title: "x", If: e}}
		c, fault := Count(s.form, api.Table{Rows: lines, Columns: lines}, l)
		if fault != api.OK {
			return nil, fault
		}
		return []any{c.Totals[0].Cases}, fault
	case "table":
		rows, fault := LinesOf(s.form, w[1], nil)
		if fault != api.OK {
			return nil, fault
		}
		columns, fault := LinesOf(s.form, w[2], nil)
		if fault != api.OK {
			return nil, fault
		}
		c, fault := Count(s.form, api.Table{Rows: rows, Columns: columns}, l)
		for _, row := range c.Cells {
			for _, cell := range row {
				out = append(out, cell.Cases)
			}
		}
		return out, fault
	}
	names, fault := proof.Dead(s.form)
	for _, name := range names {
		out = append(out, name)
	}
	return out, fault
}

// randomCommand returns a command that has its form.
func randomCommand(r *rand.Rand, begun bool) string {
	n := func() int { return r.Intn(pick(r, 3, 4, 4, 5)) }
	id := func() int { return pick(r, 1, 1, 2, 2, 3, 4, 0, 2001) }
	e := func() string {
		return pick(r, "true", "sex = #1", "sex = #2", "kids > 1", "any(row: kid > 5)", "answered(note)", "kid", "sex", "((", "nobody = 1")
	}
	k := func() string {
		return pick(r, "sex", "sex", "kids", "note", "kid.1", "kid.2", "p", "nobody", "kid", "sex.1")
	}
	v := func() string {
		return pick(r, "#1", "#1", "#2", "#2", "#3", "2", "2", "1", "5.5", "'x'", "''''", "-", "refused", "dontknow", "true", "{}", "@2000-01-01")
	}
	if !begun {
		return fmt.Sprintf("quota %s %d %s", pick(r, "a", "b", "c", "D"), pick(r, 1, 2, 5, 2001), e())
	}
	switch r.Intn(24) {
	case 0:
		return fmt.Sprintf("quota z 1 %s", e())
	case 1, 2:
		return fmt.Sprintf("case %d %d %s", id(), n(), pick(r, "s", "t", "~"))
	case 3:
		return fmt.Sprintf("assign %d %d", id(), n())
	case 4:
		if r.Intn(3) > 0 {
			return "data"
		}
		return fmt.Sprintf("off %d", n())
	case 5, 6:
		return fmt.Sprintf("permit %s %d", pick(r, "a", "a", "b", "c", "x"), n())
	case 7, 8, 9, 10, 11:
		return fmt.Sprintf("answer %d %d %s %s", n(), id(), k(), v())
	case 12, 13, 14:
		return fmt.Sprintf("complete %d %d", n(), id())
	case 15:
		return fmt.Sprintf("return %d %d", n(), r.Intn(4))
	case 16, 17, 18:
		return fmt.Sprintf("sync %d %d", n(), n())
	case 19:
		return fmt.Sprintf("%s %d", "state", n())
	case 20:
		return fmt.Sprintf("%s %d %d", pick(r, "show", "open"), n(), id())
	case 21:
		return fmt.Sprintf("say %d %d %s %d", n(), id(), k(), r.Intn(3))
	case 22:
		return fmt.Sprintf("count %s", e())
	}
	return pick(r, "table sex sex", "table sex kids", "table kid sex", "table sex nobody", "dead")
}

// TestRunByChance holds Run against the second console, for scripts of which most commands concern a few cases.
func TestRunByChance(t *testing.T) {
	form := formOf(t, consoleLines)
	replies := map[string]int{}
	for seed := range int64(150) {
		r := rand.New(rand.NewSource(seed))
		s := &second{t: t, form: form}
		script, want := consoleLines+"end\n", ""
		quotas := r.Intn(6)
		var first []string // so that there is something to work with
		if seed%3 > 0 {
			first = strings.Split("quota a 3 sex = #1,quota b 2 kids > 1,case 1 1 s,case 2 2 t,case 3 1 u,permit a 1,permit a 2,permit b 1,sync 0 1,sync 0 2,answer 1 1 sex #1,answer 2 2 sex #2,answer 1 3 sex #2", ",")
		}
		for n := range 200 {
			command := randomCommand(r, n >= quotas)
			if n < len(first) {
				command = first[n]
			}
			answer := s.reply(command)
			script, want = script+command+"\n", want+answer+"\n"
			word, _, _ := strings.Cut(command, " ")
			result, _, _ := strings.Cut(answer, " ")
			replies[word+" "+result]++
		}
		if got := Run(script); got != want {
			t.Fatalf("seed %d\n%s\ngot\n%s\nwant\n%s", seed, script, got, want)
		}
	}
	for _, word := range []string{"quota", "case", "assign", "off", "permit", "answer", "complete", "return", "sync", "state", "show", "open", "say", "count", "table"} {
		if replies[word+" ok"] < 20 || replies[word+" error"] < 20 {
			t.Error("few replies to", word, replies[word+" ok"], replies[word+" error"])
		}
	}
	if replies["data ok"] < 20 || replies["dead error"] < 20 {
		t.Error("few replies to data or dead")
	}
}
