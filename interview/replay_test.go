package interview

import (
	"slices"
	"testing"

	"canvass/api"
	"canvass/fresh"
)

func sameStep(a, b api.Step) bool {
	return a.Kind == b.Kind && a.Minute == b.Minute && isAt(a.Page, b.Page) && slices.EqualFunc(a.Given, b.Given, sameGiven)
}

// holdSame holds that two interviews are in the same state.
func holdSame(t *testing.T, a, b *Interview) {
	t.Helper()
	sameSpent := func(a, b api.Spent) bool { return isAt(a.Page, b.Page) && a.Minutes == b.Minutes }
	done, all := a.Progress()
	otherDone, otherAll := b.Progress()
	if pageText(a) != pageText(b) || !sameRoute(a.Route(), b.Route()) || a.Finished() != b.Finished() || done != otherDone || all != otherAll ||
		!slices.EqualFunc(a.Questions(), b.Questions(), sameAsked) || !slices.EqualFunc(a.Data(), b.Data(), sameGiven) || !slices.EqualFunc(a.Beside(), b.Beside(), sameGiven) ||
		!slices.EqualFunc(a.Journal(), b.Journal(), sameStep) || !slices.EqualFunc(a.Spent(), b.Spent(), sameSpent) {
		t.Error("interviews differ")
	}
}

// TestJournal holds what is in the journal, and that Replay makes the same interview of it (I7).
func TestJournal(t *testing.T) {
	f := listed(t, homeLines)
	i := started(t, f, 10)
	script := []string{
		"11 give got=#1 note='a'", "12 next", "13 give many=2", "14 give many=7", "14 give", "15 jump kid.1", "16 give age.1=99", "16 jump last", "17 back", "18 change many=-", "19 change many=3",
		"20 change got=#2", "21 give note=- got=#1", "21 finish", "22 jump kid.1", "22 next", "22 give age.2=1", "23 finish", "23 change many=2", "23 finish", "24 next",
	}
	var want []api.Step
	for _, call := range script {
		s := stepFrom(t, call)
		if makeStep(t, i, s) == api.OK {
			want = append(want, s)
		}
	}
	if len(want) != 15 || !slices.EqualFunc(i.Journal(), want, sameStep) || !i.Finished() {
		t.Error("Journal", len(want), i.Journal())
	}
	for n := range len(want) + 1 {
		part := started(t, f, 10)
		for _, s := range want[:n] {
			if fault := makeStep(t, part, s); fault != api.OK {
				t.Error("a step again", s, fault)
			}
		}
		again, at, fault := Replay(f, "s", 10, part.Journal())
		if fault != api.OK || at != 0 {
			t.Fatal("Replay", at, fault)
		}
		holdSame(t, part, again)
	}
	holdSame(t, i, func() *Interview { again, _, _ := Replay(f, "s", 10, i.Journal()); return again }())
	if again, _, _ := Replay(f, "s", 5, want); spentText(again) == spentText(i) {
		t.Error("the minute of New does not count", spentText(again))
	}
}

// TestReplayErrors holds the errors of Replay, in order, with the numbers of their steps (I7).
func TestReplayErrors(t *testing.T) {
	f := listed(t, homeLines)
	good := []api.Step{{Kind: api.StepGive, Minute: 1, Given: []api.Given{given("got", choiceValue(2))}}, {Kind: api.StepNext, Minute: 2}}
	answer := []api.Given{given("got", choiceValue(1))}
	wrong := []api.Given{given("nobody", choiceValue(1))}
	page := key("start")
	for _, x := range []struct {
		s    api.Step
		want api.Fault
	}{
		{api.Step{Given: wrong, Page: page, Minute: -1}, api.ErrKind}, {api.Step{Kind: 7, Given: wrong, Page: page, Minute: -1}, api.ErrKind}, {api.Step{Kind: -1}, api.ErrKind}, {api.Step{Kind: 0, Minute: 2}, api.ErrKind},
		{api.Step{Kind: api.StepGive, Given: wrong, Page: page, Minute: -1}, api.ErrForm}, {api.Step{Kind: api.StepGive, Page: api.Key{Row: []int{1}}, Minute: 2}, api.ErrForm},
		{api.Step{Kind: api.StepNext, Given: answer, Minute: -1}, api.ErrForm}, {api.Step{Kind: api.StepNext, Page: page, Minute: -1}, api.ErrForm},
		{api.Step{Kind: api.StepBack, Given: answer, Minute: 2}, api.ErrForm}, {api.Step{Kind: api.StepBack, Page: page, Minute: 2}, api.ErrForm},
		{api.Step{Kind: api.StepJump, Page: page, Given: answer, Minute: 2}, api.ErrForm},
		{api.Step{Kind: api.StepChange, Minute: -1}, api.ErrForm}, {api.Step{Kind: api.StepChange, Given: []api.Given{answer[0], wrong[0]}, Minute: 2}, api.ErrForm}, {api.Step{Kind: api.StepChange, Given: answer, Page: page, Minute: 2}, api.ErrForm},
		{api.Step{Kind: api.StepFinish, Given: answer, Minute: 2}, api.ErrForm}, {api.Step{Kind: api.StepFinish, Page: api.Key{Row: []int{0}}, Minute: 2}, api.ErrForm},
		{api.Step{Kind: api.StepGive, Given: wrong, Minute: -1}, api.ErrRange}, {api.Step{Kind: api.StepChange, Given: wrong, Minute: 1}, api.ErrOrder}, {api.Step{Kind: api.StepChange, Given: wrong, Minute: 2}, api.ErrName}, {api.Step{Kind: api.StepGive, Given: answer, Minute: 2}, api.ErrState},
		{api.Step{Kind: api.StepNext, Minute: 2}, api.ErrNone}, {api.Step{Kind: api.StepJump, Minute: 2}, api.ErrNone}, {api.Step{Kind: api.StepJump, Page: key("kid", 1), Minute: 2}, api.ErrNone},
		{api.Step{Kind: api.StepGive, Given: []api.Given{}, Page: api.Key{Row: []int{}}, Minute: 2}, api.OK}, {api.Step{Kind: api.StepBack, Given: []api.Given{}, Page: api.Key{Row: []int{}}, Minute: 2}, api.OK}, {api.Step{Kind: api.StepChange, Given: answer, Minute: 2}, api.OK}, {api.Step{Kind: api.StepFinish, Minute: api.MaxMinute}, api.OK},
	} {
		steps := append(slices.Clone(good), x.s, api.Step{Kind: 99})
		if i, n, fault := Replay(f, "s", 0, steps[:3]); fault != x.want || (i == nil) != (fault != api.OK) || fault != api.OK && n != 2 || fault == api.OK && n != 0 {
			t.Error("Replay", x.s, n, fault, "not", x.want)
		}
		want, at := x.want, 2
		if want == api.OK {
			want, at = api.ErrKind, 3
		}
		if i, n, fault := Replay(f, "s", 0, steps); fault != want || n != at || i != nil {
			t.Error("Replay of more", x.s, n, fault)
		}
		// The form of a step is asked ahead of whether the interview is finished.
		if x.want == api.ErrKind || x.want == api.ErrForm {
			steps := []api.Step{good[0], {Kind: api.StepFinish, Minute: 3}, x.s}
			if _, n, fault := Replay(f, "s", 0, steps); fault != x.want || n != 2 {
				t.Error("Replay behind Finish", x.s, n, fault)
			}
		}
	}
	if _, n, fault := Replay(f, "s", 0, []api.Step{{Kind: api.StepNext}}); fault != api.ErrMissing || n != 0 {
		t.Error("Replay with an error in the first step", n, fault)
	}
	if i, n, fault := Replay(f, "s", 0, nil); fault != api.OK || n != 0 || pageText(i) != "start" {
		t.Error("Replay of nothing", n, fault)
	}
	if _, _, fault := Replay(f, "s", 2, good); fault != api.ErrOrder {
		t.Error("Replay that begins too late", fault)
	}
}

// TestOwnMemory holds that an interview is as it was, whatever becomes of what it was given and of what it gave out (G2).
func TestOwnMemory(t *testing.T) {
	f := listed(t, homeLines)
	f.Items[4].Items[0].Answer.Low = 1
	i := started(t, f, 0)
	same := started(t, fresh.Form(f), 0)
	one := []api.Given{given("got", choiceValue(1))}
	bye := given("bye", choicesValue(5, 7))
	kid := key("kid", 1)
	steps := func(i *Interview) {
		play(t, i, "0 give got=#1 -> 0 start\n0 next -> 0 number\n0 give many=1 -> 0 number\n0 next -> 0 kid.1\n0 give age.1=3 -> 0 kid.1")
	}
	if i.Give(one, 0) != api.OK || same.Give(one, 0) != api.OK {
		t.Error("Give")
	}
	one[0].Key.Name, one[0].Value.N = "note", 2
	steps(i)
	steps(same)
	if i.Change(bye, 0) != api.OK || same.Change(fresh.Given(bye), 0) != api.OK || i.Jump(kid, 0) != api.OK || same.Jump(fresh.Key(kid), 0) != api.OK {
		t.Error("Change and Jump")
	}
	bye.Value.Set[0], kid.Row[0] = 3, 9
	f.Lists[1].Options[0].Code, f.Items[0].Name, f.Items[2].Items[0].Name, f.Items[1].If[0].Args[0].Name = 99, "x", "y", "z"
	f.Items[0].Items[0].Answer.Need, f.Items[4].Items[0].Answer.Low = false, 2
	spoil(i)
	holdSame(t, i, same)
	for _, script := range []string{"1 give age.1=4 -> 0 kid.1", "1 change bye={#7} -> 0 kid.1", "1 finish -> 0 kid.1"} {
		play(t, i, script)
		play(t, same, script)
		holdSame(t, i, same)
	}
}

// spoil writes into all that an interview gives out.
func spoil(i *Interview) {
	spoilKey := func(k api.Key) {
		for n := range k.Row {
			k.Row[n] = 77
		}
	}
	spoilAsked := func(l []api.Asked) {
		for _, a := range l {
			spoilKey(a.Key)
			spoilKey(a.Page)
			for _, numbers := range [][]int{a.Value.Set, a.Offered, a.Soft} {
				for n := range numbers {
					numbers[n] = 77
				}
			}
		}
		clear(l)
	}
	spoilGiven := func(l []api.Given) {
		for _, a := range l {
			spoilKey(a.Key)
			for n := range a.Value.Set {
				a.Value.Set[n] = 77
			}
		}
		clear(l)
	}
	r := i.Route()
	spoilAsked(r.Asked)
	for n := range r.Pages {
		spoilKey(r.Pages[n])
	}
	clear(r.Pages)
	for _, rows := range r.Rows {
		clear(rows.Row)
		clear(rows.Numbers)
	}
	clear(r.Rows)
	spoilAsked(i.Questions())
	spoilGiven(i.Data())
	spoilGiven(i.Beside())
	journal := i.Journal()
	for _, s := range journal {
		spoilGiven(s.Given)
		spoilKey(s.Page)
	}
	clear(journal)
	for _, s := range i.Spent() {
		spoilKey(s.Page)
	}
	page, _ := i.Page()
	spoilKey(page)
}
