package field

import (
	"fmt"
	"math/rand"
	"slices"
	"testing"

	"canvass/api"
)

// pick returns one of some texts by chance.
func pick(r *rand.Rand, l ...string) string { return l[r.Intn(len(l))] }

// randomWord returns the kind and the fields of an event by chance, as `event` reads them; many fit others.
func randomWord(r *rand.Rand, device int) string {
	one := 1 + r.Intn(2)
	if device == 0 {
		switch r.Intn(8) {
		case 0, 1:
			return fmt.Sprint("create ", one, " ", 1+r.Intn(3), " ", pick(r, "a", "b"))
		case 2:
			return fmt.Sprint("assign ", one, " ", 1+r.Intn(3))
		case 3:
			if r.Intn(2) == 0 {
				return fmt.Sprint("writeoff ", 1+r.Intn(3), " ", r.Intn(9))
			}
		}
		return fmt.Sprint("grant ", 1+r.Intn(4), " ", r.Intn(3), " ", 1+r.Intn(3))
	}
	switch r.Intn(8) {
	case 0, 1, 2:
		return fmt.Sprint("answer ", one, " ", pick(r, "sex=#1", "sex=#2", "sex=-", "kids=1", "kids=2", "kids=-", "age.1=5", "age.2=50", "age.1=-"))
	case 3:
		return fmt.Sprint("return ", 1+r.Intn(4))
	case 4:
		return fmt.Sprint("complete ", one, " ", pick(r, "-1 0 sex=refused", "-1 0", "-1 0 sex=#1", fmt.Sprint("0 ", 1+r.Intn(4), " sex=#2"), fmt.Sprint("1 ", 1+r.Intn(4), " sex=#2 kids=1 age.1=5")))
	}
	return fmt.Sprint("complete ", one, " ", pick(r, fmt.Sprint("0 ", 1+r.Intn(4), " sex=#1"), fmt.Sprint("2 ", 1+r.Intn(4), " sex=#2")))
}

// randomSet returns a set by chance, in which things stand in orders in which no calls would put them.
func randomSet(t *testing.T, r *rand.Rand) []api.Event {
	t.Helper()
	var l []api.Event
	for device := range 4 {
		clock := 0
		for number := range r.Intn(10) {
			clock += 1 + r.Intn(4)
			l = append(l, event(t, fmt.Sprintf("%d.%d.%d %s @%d", clock, device, number+1, randomWord(r, device), r.Intn(3))))
		}
	}
	return secondJoin(nil, l)
}

// TestStateByChance holds StateOf against its second making, and devices that come to the same set in another way against both (L4, L6).
func TestStateByChance(t *testing.T) {
	p := workPlan(t)
	complete, used, back, refused := 0, 0, 0, 0
	for seed := range int64(1500) {
		r := rand.New(rand.NewSource(seed))
		set := randomSet(t, r)
		if fault := CheckEvents(p, set); fault != api.OK {
			t.Fatal("CheckEvents", seed, fault)
		}
		s := secondState(p, set)
		want := stateText(s)
		got, _ := StateOf(p, set)
		is(t, fmt.Sprint("StateOf ", seed), stateText(got), want)
		d := device(t, p, r.Intn(4))
		for len(d.Events()) < len(set) {
			receiveSome(t, r, d, set)
			if r.Intn(2) == 0 {
				is(t, fmt.Sprint("State on the way ", seed), stateText(d.State()), stateText(secondState(p, d.Events())))
			}
		}
		is(t, fmt.Sprint("Events ", seed), eventsText(d.Events()), eventsText(set))
		is(t, fmt.Sprint("State ", seed), stateText(d.State()), want)
		holdOneByOne(t, p, set, want)
		for _, c := range s.Cases {
			if c.Complete {
				complete++
			}
		}
		for _, x := range s.Permits {
			if x.State == api.PermitUsed {
				used++
			} else if x.State == api.PermitBack {
				back++
			}
		}
		refused += s.Refused
		if t.Failed() {
			t.Fatal(eventsText(set))
		}
	}
	if complete < 300 || used < 100 || back < 400 || refused < 400 {
		t.Error("too little happens", complete, used, back, refused)
	}
}

// receiveSome lets a device receive a part of a set: of each device some of those events that follow, and others.
func receiveSome(t *testing.T, r *rand.Rand, d *Device, set []api.Event) {
	t.Helper()
	upTo := map[int]int{}
	for device := range 4 {
		upTo[device] = r.Intn(12)
	}
	var part []api.Event
	for _, e := range set {
		if e.Number <= upTo[e.Device] || r.Intn(9) == 0 {
			part = append(part, e)
		}
	}
	if fault := d.Receive(api.Packet{From: r.Intn(4), Events: part}); fault != api.OK {
		t.Fatal("Receive", fault)
	}
}

// holdOneByOne holds the state of a device that receives each event of a set behind those ahead of it.
func holdOneByOne(t *testing.T, p api.Plan, set []api.Event, want string) {
	t.Helper()
	d := device(t, p, 0)
	for i := range set {
		d.State()
		if fault := d.Receive(api.Packet{Events: set[i : i+1]}); fault != api.OK {
			t.Fatal("Receive", fault)
		}
	}
	is(t, "State, one by one", stateText(d.State()), want)
}

// world is devices that work, and messages that are on the way between them.
type world struct {
	*testing.T
	*rand.Rand
	plan    api.Plan
	devices []*Device
	marks   [][][]api.Mark // of each device, those that it had at some time
	mail    []letter
	calls   map[string]int // how often each call had which fault
}

// letter is a message to a device.
type letter struct {
	to int
	m  api.Packet
}

func newWorld(t *testing.T, seed int64) *world {
	w := &world{T: t, Rand: rand.New(rand.NewSource(seed)), plan: workPlan(t), marks: make([][][]api.Mark, 4), calls: map[string]int{}}
	for i := range 4 {
		w.devices = append(w.devices, device(t, w.plan, i))
	}
	return w
}

// randomCase returns the number of a case, mostly of one that a device has.
func (w *world) randomCase(device int) int {
	own := slices.DeleteFunc(w.devices[device].State().Cases, func(c api.CaseState) bool { return c.Device != device || c.Complete })
	if len(own) == 0 || w.Intn(4) == 0 {
		return 1 + w.Intn(9)
	}
	return own[w.Intn(len(own))].Case
}

// randomCall returns a call of a device by chance, as `do` makes it, and its event, as far as the arguments say it.
func (w *world) randomCall(device int) (string, api.Event) {
	id, to := w.randomCase(device), 1+w.Intn(3)
	if device == 0 {
		switch w.Intn(10) {
		case 0, 1, 2:
			return fmt.Sprint("create ", id, " ", to, " s"), api.Event{Kind: api.EvCreate, Case: id, To: to, Seed: "s"}
		case 3:
			return fmt.Sprint("assign ", id, " ", to), api.Event{Kind: api.EvAssign, Case: id, To: to}
		case 4:
			if w.Intn(6) == 0 {
				return fmt.Sprint("writeoff ", to), api.Event{Kind: api.EvWriteOff, To: to}
			}
		}
		cell := w.Intn(3)
		return fmt.Sprint("grant ", cell, " ", to), api.Event{Kind: api.EvGrant, Cell: cell, To: to}
	}
	switch w.Intn(6) {
	case 0:
		permit := 1 + w.Intn(5)
		return fmt.Sprint("return ", permit), api.Event{Kind: api.EvReturn, Permit: permit}
	case 1, 2:
		return fmt.Sprint("complete ", id), api.Event{Kind: api.EvComplete, Case: id}
	}
	word := pick(w.Rand, "sex=#1", "sex=#1", "sex=#2", "sex=#2", "sex=refused", "sex=-", "sex=#3", "kids=1", "kids=2", "kids=-", "kids=9", "kids=10", "age.1=5", "age.2=50", "age.1=-", "age.3=1", "sex=true")
	return fmt.Sprint("answer ", id, " ", word), api.Event{Kind: api.EvAnswer, Case: id, Given: answers(w.T, word)}
}

// call makes a call, and holds its fault and its event against their second making.
func (w *world) call() {
	w.Helper()
	n := w.Intn(4)
	d := w.devices[n]
	before := d.Events()
	text, e := w.randomCall(n)
	want, fault := secondCall(w.T, w.plan, before, n, e)
	permit, got := do(w.T, d, text)
	w.calls[fmt.Sprint(kindWords[e.Kind], " ", fault)]++
	is(w.T, text, got, fault)
	if fault == api.OK {
		before = append(before, want)
		is(w.T, text, e.Kind == api.EvGrant && permit == want.Permit || permit == 0, true)
	}
	is(w.T, text+", Events", eventsText(d.Events()), eventsText(before))
}

// post sends, delivers, doubles or loses a message.
func (w *world) post() {
	w.Helper()
	from, to := w.Intn(4), w.Intn(4)
	w.marks[to] = append(w.marks[to], w.devices[to].Known())
	if w.Intn(2) == 0 || len(w.mail) == 0 {
		m, fault := w.devices[from].Send(w.marks[to][w.Intn(len(w.marks[to]))])
		if fault != api.OK {
			w.Fatal("Send", fault)
		}
		w.mail = append(w.mail, letter{to, m})
		if w.Intn(2) == 0 {
			return
		}
		w.deliver(len(w.mail) - 1)
		return
	}
	w.deliver(w.Intn(len(w.mail)))
}

// deliver delivers a message, or loses it; it can come once more.
func (w *world) deliver(n int) {
	w.Helper()
	if w.Intn(5) > 0 {
		x := w.mail[n]
		want := slices.Clone(w.devices[x.to].Events())
		for _, e := range x.m.Events {
			if e.Number == secondMark(want, e.Device)+1 {
				want = secondJoin(want, []api.Event{e})
			}
		}
		if fault := w.devices[x.to].Receive(x.m); fault != api.OK {
			w.Fatal("Receive", fault)
		}
		is(w.T, "Receive", eventsText(w.devices[x.to].Events()), eventsText(want))
	}
	if w.Intn(3) > 0 {
		w.mail = slices.Delete(w.mail, n, n+1)
	}
}

// crash restores a device from what it has stored, which is all.
func (w *world) crash() {
	w.Helper()
	n := w.Intn(4)
	d, fault := Restore(w.plan, n, w.devices[n].Events())
	if fault != api.OK {
		w.Fatal("Restore", fault)
	}
	w.devices[n] = d
}

// holdQuotas holds that no quota is overfilled, at the centre and in all sets joined (L7), and the states of all devices (L4).
func (w *world) holdQuotas() {
	w.Helper()
	var all []api.Event
	for _, d := range w.devices {
		is(w.T, "State", stateText(d.State()), stateText(secondState(w.plan, d.Events())))
		joined, fault := Join(w.plan, d.Events(), all)
		if fault != api.OK {
			w.Fatal("Join", fault)
		}
		is(w.T, "Join", eventsText(joined), eventsText(secondJoin(d.Events(), all)))
		all = joined
	}
	s, fault := StateOf(w.plan, all)
	if fault != api.OK {
		w.Fatal("StateOf", fault)
	}
	for cell, q := range w.plan.Quotas {
		if s.Filled[cell] > q.Target || w.devices[0].State().Filled[cell] > q.Target {
			w.Error("a quota is overfilled", s.Filled, eventsText(all))
		}
	}
}

// holdSame lets each device receive a message of each other one, sent behind its last call, and holds that all then have the same set (L7).
func (w *world) holdSame() {
	w.Helper()
	var letters []letter
	var all []api.Event
	for from, d := range w.devices {
		all = secondJoin(all, d.Events())
		for to := range w.devices {
			w.marks[to] = append(w.marks[to], nil)
			if m, fault := d.Send(w.marks[to][w.Intn(len(w.marks[to]))]); fault == api.OK && from != to {
				letters = append(letters, letter{to, m})
			}
		}
	}
	letters = append(append(letters, letters...), w.mail...)
	w.Shuffle(len(letters), func(i, j int) { letters[i], letters[j] = letters[j], letters[i] })
	for _, x := range letters {
		if fault := w.devices[x.to].Receive(x.m); fault != api.OK {
			w.Error("Receive", fault)
		}
	}
	for _, d := range w.devices {
		is(w.T, "the same set", eventsText(d.Events()), eventsText(all))
	}
}

// TestWorldByChance holds calls against their second making, and L7, while messages are late, doubled and lost.
func TestWorldByChance(t *testing.T) {
	calls := map[string]int{}
	for seed := range int64(40) {
		w := newWorld(t, seed)
		for step := range 400 {
			switch w.Intn(40) {
			case 0:
				w.crash()
			case 1, 2:
				w.holdQuotas()
			default:
				if step%3 == 0 {
					w.call()
				} else {
					w.post()
				}
			}
			if t.Failed() {
				t.Fatal("seed", seed)
			}
		}
		w.holdQuotas()
		w.holdSame()
		w.holdQuotas()
		for word, n := range w.calls {
			calls[word] += n
		}
	}
	for _, word := range []string{"create 0", "create 6", "assign 0", "assign 9", "grant 0", "grant 11", "grant 15", "writeoff 0", "writeoff 11", "answer 0", "answer 1", "answer 4", "answer 9", "answer 11", "answer 20", "answer 21", "complete 0", "complete 9", "complete 12", "complete 13", "complete 15", "complete 20", "complete 21", "return 0", "return 9", "return 11"} {
		if calls[word] == 0 {
			t.Error("never", word, calls)
		}
	}
}
