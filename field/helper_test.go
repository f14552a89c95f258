package field

import (
	"fmt"
	"slices"
	"strconv"
	"strings"
	"testing"

	"canvass/api"
	"canvass/quest"
	"canvass/value"
)

const workLines = `form work 1
languages en
list sexes
  option 1
  option 2
  option 3
page p
  question sex choice sexes need reasons refused
    only option <> #3
  question kids number 0 9
    if sex = #2
    check not answered(kids) or kids < 9
loop row count kids
  page q
    question age number 0 120
compute old = sum(row: age)
`

// planWith returns a plan whose quotas have texts such as `men 2 sex = #1`.
func planWith(t *testing.T, form string, quotas ...string) api.Plan {
	t.Helper()
	f, line, fault := quest.Read(form)
	if fault != api.OK {
		t.Fatal("Read", line, fault)
	}
	p := api.Plan{Form: f}
	for _, text := range quotas {
		words := strings.SplitN(text, " ", 3)
		e, place, fault := value.Parse(words[2])
		if fault != api.OK {
			t.Fatal("Parse", text, place, fault)
		}
		p.Quotas = append(p.Quotas, api.Quota{Name: words[0], If: e, Target: number(t, words[1])})
	}
	return p
}

// workPlan has the cells 0 of men, 1 of those with children of which one is young, and 2 of other women; others have none.
func workPlan(t *testing.T) api.Plan {
	t.Helper()
	return planWith(t, workLines, "men 2 sex = #1", "young 1 any(row: age < 18)", "women 3 sex = #2")
}

func number(t *testing.T, text string) int {
	t.Helper()
	n, err := strconv.Atoi(text)
	if err != nil {
		t.Fatal("no number", text)
	}
	return n
}

// answers reads given answers, as `sex=#1 age.2=20`.
func answers(t *testing.T, words ...string) []api.Given {
	t.Helper()
	var out []api.Given
	for _, word := range words {
		at, shown, _ := strings.Cut(word, "=")
		v, fault := value.Read(shown)
		if fault != api.OK {
			t.Fatal("Read", word, fault)
		}
		parts := strings.Split(at, ".")
		g := api.Given{Key: api.Key{Name: parts[0]}, Value: v}
		for _, n := range parts[1:] {
			g.Key.Row = append(g.Key.Row, number(t, n))
		}
		out = append(out, g)
	}
	return out
}

func answer(t *testing.T, word string) api.Given {
	t.Helper()
	return answers(t, word)[0]
}

// kindWords are the words of kinds of events.
var kindWords = []string{"", "create", "assign", "grant", "writeoff", "answer", "complete", "return"}

// event reads an event: Clock, Device and Number, a kind, and its fields, as `7.1.2 complete 1 0 5 sex=#1` (Case, Cell, Permit, Given). A word @6 at the end is the Minute.
func event(t *testing.T, text string) api.Event {
	t.Helper()
	words := strings.Fields(text)
	at := strings.Split(words[0], ".")
	e := api.Event{Clock: number(t, at[0]), Device: number(t, at[1]), Number: number(t, at[2]), Kind: slices.Index(kindWords, words[1])}
	words = words[2:]
	if last := words[len(words)-1]; last[0] == '@' {
		e.Minute, words = number(t, last[1:]), words[:len(words)-1]
	}
	n := func(i int) int { return number(t, words[i]) }
	switch e.Kind {
	case api.EvCreate:
		e.Case, e.To, e.Seed = n(0), n(1), strings.Join(words[2:], "")
	case api.EvAssign:
		e.Case, e.To = n(0), n(1)
	case api.EvGrant:
		e.Permit, e.Cell, e.To = n(0), n(1), n(2)
	case api.EvWriteOff:
		e.To, e.Last = n(0), n(1)
	case api.EvAnswer:
		e.Case, e.Given = n(0), answers(t, words[1:]...)
	case api.EvComplete:
		e.Case, e.Cell, e.Permit, e.Given = n(0), n(1), n(2), answers(t, words[3:]...)
	case api.EvReturn:
		e.Permit = n(0)
	default:
		t.Fatal("no event", text)
	}
	return e
}

// events reads one event from each line.
func events(t *testing.T, lines string) []api.Event {
	t.Helper()
	var out []api.Event
	for _, line := range strings.Split(lines, "\n") {
		if line = strings.TrimSpace(line); line != "" {
			out = append(out, event(t, line))
		}
	}
	return out
}

func givenText(l []api.Given) string {
	var words []string
	for _, g := range l {
		word := g.Key.Name
		for _, n := range g.Key.Row {
			word += "." + strconv.Itoa(n)
		}
		shown, _ := value.Show(g.Value)
		words = append(words, word+"="+shown)
	}
	return strings.Join(words, " ")
}

// eventText returns all that an event has.
func eventText(e api.Event) string {
	given := givenText(e.Given)
	e.Given = nil
	return fmt.Sprint(e, given)
}

func eventsText(l []api.Event) string {
	var lines []string
	for _, e := range l {
		lines = append(lines, eventText(e))
	}
	return strings.Join(lines, "\n")
}

// stateText returns a text for a state: its cases, as `1:s:2[sex=#1]` (Case, Seed, Device, Given), of complete ones with their cells and minutes; its permits, as `1:0:2:out` (Number, Cell, Device, State); Filled; Refused.
func stateText(s api.Field) string {
	var words []string
	for _, c := range s.Cases {
		word := fmt.Sprintf("%d:%s:%d[%s]", c.Case, c.Seed, c.Device, givenText(c.Given))
		switch {
		case c.Complete:
			word += fmt.Sprintf("%d@%d", c.Cell, c.Minute)
		case c.Cell != -1 || c.Minute != 0:
			word += "?"
		}
		words = append(words, word)
	}
	for _, p := range s.Permits {
		words = append(words, fmt.Sprintf("%d:%d:%d:%s", p.Number, p.Cell, p.Device, []string{"?", "out", "used", "back"}[p.State]))
	}
	return fmt.Sprint(strings.Join(words, " "), " ", s.Filled, s.Refused)
}

func is(t *testing.T, what string, got, want any) {
	t.Helper()
	if g, w := fmt.Sprint(got), fmt.Sprint(want); g != w {
		t.Errorf("%s\ngot  %s\nwant %s", what, g, w)
	}
}

// device returns a device without events.
func device(t *testing.T, p api.Plan, number int) *Device {
	t.Helper()
	d, fault := New(p, number)
	if fault != api.OK || d.Number() != number {
		t.Fatal("New", fault)
	}
	return d
}

// deviceWith returns a device with a set.
func deviceWith(t *testing.T, p api.Plan, number int, lines string) *Device {
	t.Helper()
	d, fault := Restore(p, number, events(t, lines))
	if fault != api.OK {
		t.Fatal("Restore", fault)
	}
	return d
}

// sync sends what one device has to another one.
func sync(t *testing.T, from, to *Device) {
	t.Helper()
	m, fault := from.Send(to.Known())
	if fault != api.OK {
		t.Fatal("Send", fault)
	}
	if fault := to.Receive(m); fault != api.OK {
		t.Fatal("Receive", fault)
	}
}

// do makes a call of a device, from a text such as `answer 1 sex=#1 @6`, and returns its fault; of a grant, also the number.
func do(t *testing.T, d *Device, text string) (int, api.Fault) {
	t.Helper()
	words, minute := strings.Fields(text), 0
	if last := words[len(words)-1]; last[0] == '@' {
		minute, words = number(t, last[1:]), words[:len(words)-1]
	}
	n := func(i int) int { return number(t, words[i]) }
	switch words[0] {
	case "create":
		return 0, d.Create(n(1), strings.Join(words[3:], ""), n(2), minute)
	case "assign":
		return 0, d.Assign(n(1), n(2), minute)
	case "grant":
		return d.Grant(n(1), n(2), minute)
	case "writeoff":
		return 0, d.WriteOff(n(1), minute)
	case "answer":
		return 0, d.Answer(n(1), answer(t, words[2]), minute)
	case "complete":
		return 0, d.Complete(n(1), minute)
	case "return":
		return 0, d.Return(n(1), minute)
	}
	t.Fatal("no call", text)
	return 0, api.OK
}

// play makes calls from lines such as `answer 1 sex=#1 @6 -> 0` and holds their faults, and that one with a fault changes nothing.
func play(t *testing.T, d *Device, script string) {
	t.Helper()
	for _, line := range strings.Split(strings.TrimSpace(script), "\n") {
		call, want, _ := strings.Cut(strings.TrimSpace(line), " -> ")
		before := eventsText(d.Events())
		permit, fault := do(t, d, call)
		if got := strconv.Itoa(int(fault)); got != want {
			t.Errorf("%s gives %s, not %s", call, got, want)
		}
		if fault != api.OK && (permit != 0 || eventsText(d.Events()) != before) {
			t.Error(call, "with a fault changes something")
		}
	}
}

// holdEvents holds the events of a device.
func holdEvents(t *testing.T, d *Device, lines string) {
	t.Helper()
	is(t, "Events", eventsText(d.Events()), eventsText(events(t, lines)))
}
