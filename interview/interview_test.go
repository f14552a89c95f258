package interview

import (
	"strconv"
	"strings"
	"testing"

	"canvass/api"
	"canvass/quest"
)

func started(t *testing.T, f api.Form, minute int) *Interview {
	t.Helper()
	i, fault := New(f, "s", minute)
	if fault != api.OK {
		t.Fatal("New", fault)
	}
	return i
}

func pageText(i *Interview) string {
	page, isOn := i.Page()
	if !isOn {
		return "none" + keyText(page)
	}
	return keyText(page)
}

// play makes steps: lines with a minute, a step, the number of its fault and the page behind it, as in `11 give got=#1 q=2 -> 0 start`.
func play(t *testing.T, i *Interview, script string) {
	t.Helper()
	for _, line := range strings.Split(strings.TrimSpace(script), "\n") {
		call, want, _ := strings.Cut(strings.TrimSpace(line), " -> ")
		fault := makeStep(t, i, stepFrom(t, call))
		if got := strconv.Itoa(int(fault)) + " " + pageText(i); got != want {
			t.Error(call, "gives", got, "not", want)
		}
	}
}

func stepFrom(t *testing.T, call string) api.Step {
	t.Helper()
	words := strings.SplitN(call, " ", 3)
	minute, _ := strconv.Atoi(words[0])
	s := api.Step{Minute: minute, Kind: map[string]int{"give": api.StepGive, "next": api.StepNext, "back": api.StepBack, "jump": api.StepJump, "change": api.StepChange, "finish": api.StepFinish}[words[1]]}
	switch {
	case len(words) < 3:
	case s.Kind == api.StepJump:
		s.Page = keyFrom(words[2])
	default:
		s.Given = answers(t, words[2])
	}
	return s
}

func makeStep(t *testing.T, i *Interview, s api.Step) api.Fault {
	t.Helper()
	switch s.Kind {
	case api.StepGive:
		return i.Give(s.Given, s.Minute)
	case api.StepNext:
		return i.Next(s.Minute)
	case api.StepBack:
		return i.Back(s.Minute)
	case api.StepJump:
		return i.Jump(s.Page, s.Minute)
	case api.StepChange:
		return i.Change(s.Given[0], s.Minute)
	case api.StepFinish:
		return i.Finish(s.Minute)
	}
	t.Fatal("no such step", s)
	return api.OK
}

// holdState holds what an interview has: what is asked on its page, its data, what is beside, and the pages without something open.
func holdState(t *testing.T, i *Interview, questions, data, beside, progress string) {
	t.Helper()
	var words []string
	for _, a := range i.Questions() {
		words = append(words, askedText(a))
	}
	if got := strings.Join(words, " "); got != questions {
		t.Error("Questions", got, "not", questions)
	}
	if got := answersText(i.Data()); got != data {
		t.Error("Data", got, "not", data)
	}
	if got := answersText(i.Beside()); got != beside {
		t.Error("Beside", got, "not", beside)
	}
	done, all := i.Progress()
	if got := strconv.Itoa(done) + "/" + strconv.Itoa(all); got != progress {
		t.Error("Progress", got, "not", progress)
	}
}

func spentText(i *Interview) string {
	var words []string
	for _, s := range i.Spent() {
		words = append(words, keyText(s.Page)+"="+strconv.Itoa(s.Minutes))
	}
	return strings.Join(words, " ")
}

const homeLines = `page start
  question got choice two need
  question note text 0 9
page number
  if got = #1
  question many number 1 5 need reasons refused
  compute twice = many * 2
loop kids count many
  page kid
    question age number 0 120 need
      check age < 100
      soft age < 18
compute sum = sum(kids: age)
page last
  question bye choices mix 0 2
`

func TestNew(t *testing.T) {
	f := listed(t, homeLines)
	for _, minute := range []int{0, 5, api.MaxMinute} {
		i := started(t, f, minute)
		if pageText(i) != "start" || i.Finished() || len(i.Journal()) > 0 || spentText(i) != "start=0" || !sameRoute(i.Route(), routeWith(t, f, "")) {
			t.Error("New", pageText(i), i.Journal(), spentText(i))
		}
		holdState(t, i, "got=-!12/1,2 note=-", "", "", "1/2")
	}
	for _, minute := range []int{-1, api.MaxMinute + 1} {
		if i, fault := New(f, "s", minute); fault != api.ErrRange || i != nil {
			t.Error("New at", minute, fault)
		}
		if i, n, fault := Replay(f, "s", minute, []api.Step{{}}); fault != api.ErrRange || i != nil || n != 0 {
			t.Error("Replay at", minute, fault)
		}
	}
}

// TestWithoutPages holds what an interview without pages has (I4, I6).
func TestWithoutPages(t *testing.T) {
	for _, lines := range []string{"", "compute c = 1\n", "page p\n  if false\n  question q number 0 9\nend e\n", "end e\npage p\n  question q number 0 9\n"} {
		f := listed(t, lines)
		i := started(t, f, 3)
		holdState(t, i, "", "", "", "0/0")
		play(t, i, `
			4 next -> 9 none
			4 back -> 9 none
			4 jump p -> 9 none
			4 jump -> 9 none
			5 give -> 0 none
			9 finish -> 0 none
			9 finish -> 21 none`)
		if !i.Finished() || len(i.Journal()) != 2 || spentText(i) != "" || len(i.Spent()) > 0 {
			t.Error("an interview without pages", i.Journal(), spentText(i))
		}
	}
	i := started(t, listed(t, "page p\n  if false\n  question q number 0 9\n"), 0)
	play(t, i, "0 give q=1 -> 11 none\n0 change q=1 -> 11 none")
}

// TestForthAndBack is the example of the chapter, and more.
func TestForthAndBack(t *testing.T) {
	f := listed(t, homeLines)
	i := started(t, f, 10)
	play(t, i, `
		11 next -> 12 start
		11 back -> 9 start
		11 finish -> 12 start
		11 give got=#1 -> 0 start
		12 next -> 0 number
		12 finish -> 12 number
		13 give many=2 -> 0 number
		15 next -> 0 kid.1
		15 give age.1=100 -> 0 kid.1
		16 next -> 13 kid.1
		16 finish -> 13 kid.1
		16 give age.1=18 -> 0 kid.1
		17 next -> 0 kid.2`)
	holdState(t, i, "age.2=-!12~1", "got=#1 many=2 age.1=18", "", "4/5")
	play(t, i, `
		18 give age.2=7 -> 0 kid.2
		19 next -> 0 last
		20 next -> 9 last`)
	holdState(t, i, "bye=-/7,3,5,9", "got=#1 many=2 age.1=18 age.2=7", "", "5/5")
	play(t, i, "21 change got=#2 -> 0 last")
	holdState(t, i, "bye=-/7,3,5,9", "got=#2", "many=2 age.1=18 age.2=7", "2/2")
	play(t, i, `
		22 give bye={#5} -> 0 last
		23 change got=#1 -> 0 last`)
	holdState(t, i, "bye={#5}/7,3,5,9", "got=#1 many=2 age.1=18 age.2=7 bye={#5}", "", "5/5")
	play(t, i, `
		24 jump number -> 0 number
		24 give many=1 -> 0 number`)
	holdState(t, i, "many=1 twice=2", "got=#1 many=1 age.1=18 bye={#5}", "age.2=7", "4/4")
	play(t, i, `
		25 give many=refused -> 0 number`)
	holdState(t, i, "many=refused twice=-", "got=#1 many=refused bye={#5}", "age.1=18 age.2=7", "3/3")
	play(t, i, `
		26 give many=3 -> 0 number
		27 back -> 0 start
		27 back -> 9 start
		28 jump kid.3 -> 0 kid.3
		28 jump last -> 11 kid.3
		29 finish -> 12 kid.3
		30 give age.3=1 -> 0 kid.3
		35 finish -> 0 kid.3`)
	if got := spentText(i); got != "start=3 number=6 kid.1=2 kid.2=2 kid.3=7 last=5" || !i.Finished() {
		t.Error("Spent", got)
	}
	holdState(t, i, "age.3=1", "got=#1 many=3 age.1=18 age.2=7 age.3=1 bye={#5}", "", "6/6")
	if !sameRoute(i.Route(), routeWith(t, f, "got=#1 many=3 age.1=18 age.2=7 age.3=1 bye={#5}")) {
		t.Error("Route", routeText(i.Route()))
	}
}

// TestStepErrors holds the errors of all steps, in order, ahead of their own (I4).
func TestStepErrors(t *testing.T) {
	f := listed(t, homeLines)
	calls := []string{"give nobody=1", "next", "back", "jump nobody", "change nobody=1", "finish"}
	own := []api.Fault{api.ErrName, api.ErrMissing, api.ErrNone, api.ErrNone, api.ErrName, api.ErrMissing}
	i := started(t, f, 10)
	hold := func(i *Interview, n, minute int, want api.Fault) {
		t.Helper()
		before := len(i.Journal())
		s := stepFrom(t, "0 "+calls[n])
		s.Minute = minute
		if fault := makeStep(t, i, s); fault != want || len(i.Journal()) != before {
			t.Error(calls[n], "at", minute, fault, "not", want)
		}
	}
	for n := range calls {
		hold(i, n, -1, api.ErrRange)
		hold(i, n, api.MaxMinute+1, api.ErrRange)
		hold(i, n, 9, api.ErrOrder)
		hold(i, n, 0, api.ErrOrder)
		hold(i, n, 10, own[n])
		hold(i, n, api.MaxMinute, own[n])
	}
	// A step without an error sets the least minute of the next one; one with an error does not.
	play(t, i, "15 give got=#3 -> 9 start\n12 give got=#2 -> 0 start")
	for n := range calls {
		hold(i, n, 11, api.ErrOrder)
	}
	for len(i.Journal()) < api.MaxSteps {
		if fault := i.Give(nil, 12); fault != api.OK {
			t.Fatal("Give", len(i.Journal()), fault)
		}
	}
	for n := range calls {
		hold(i, n, -1, api.ErrRange)
		hold(i, n, 11, api.ErrOrder)
		hold(i, n, 12, api.ErrLarge)
	}
	// The last step can be the one that finishes it. What is closed is closed ahead of all else.
	steps := i.Journal()
	steps[api.MaxSteps-1] = api.Step{Kind: api.StepFinish, Minute: 13}
	i, _, fault := Replay(f, "s", 10, steps)
	if fault != api.OK || !i.Finished() {
		t.Fatal("Replay of a full journal", fault)
	}
	for n := range calls {
		hold(i, n, -1, api.ErrClosed)
		hold(i, n, 13, api.ErrClosed)
	}
	if i, n, fault := Replay(f, "s", 10, append(steps, api.Step{Kind: api.StepNext, Minute: 13})); fault != api.ErrClosed || n != api.MaxSteps || i != nil {
		t.Error("Replay of a step behind the last one", n, fault)
	}
	steps[api.MaxSteps-1] = api.Step{Kind: api.StepGive, Minute: 12}
	if i, n, fault := Replay(f, "s", 10, append(steps, steps[0])); fault != api.ErrLarge || n != api.MaxSteps || i != nil {
		t.Error("Replay of too many steps", n, fault)
	}
}

// TestGive holds the errors of Give, in order, and what it replaces (I5).
func TestGive(t *testing.T) {
	f := listed(t, `page p
  question a number 0 9 need reasons refused
  question b choice two need
    if a = 1
  question c choice mix
    only option <> #7 or b = #1
  compute cc = a + 1
  question d text 0 2
page q
  question e number 0 9
page r
  if b = #1
  question g number 0 9
`)
	i := started(t, f, 0)
	play(t, i, `
		0 give a=1 cc=1 -> 5 p
		0 give e=1 a.1=1 -> 3 p
		0 give e=1 a=1 e=1 -> 6 p
		0 give e=1 -> 11 p
		0 give g=1 -> 11 p
		0 give b=#1 -> 11 p
		0 give b=#1 a=1 -> 11 p
		0 give a=1 e=1 -> 11 p
		0 give a=10 e=1 -> 1 p
		0 give a=1.5 -> 3 p
		0 give a=- -> 12 p
		0 give a='x' -> 8 p
		0 give a=dontknow -> 8 p
		0 give d='abc' -> 1 p
		0 give c=#7 -> 9 p
		0 give c=#4 -> 9 p`)
	for _, x := range givenErrors() {
		if x.want == api.OK {
			continue
		}
		i := started(t, listed(t, givenLines), 0)
		if fault := i.Give(x.l, 0); fault != x.want {
			t.Error("Give", x.l, fault, "not", x.want)
		}
		if len(x.l) == 1 {
			if fault := i.Change(x.l[0], 0); fault != x.want {
				t.Error("Change", x.l, fault, "not", x.want)
			}
		}
	}
	holdState(t, i, "a=-!12 c=-/3,5,9 cc=- d=-", "", "", "1/2")
	// Each answer sees those ahead of it; with an error none is given.
	play(t, i, `
		0 give a=1 b=#1 c=#7 d='x' e=1 -> 11 p
		0 give a=1 b=#1 c=#7 d='xyz' -> 1 p
		0 give a=1 b=#1 c=#7 a=2 -> 6 p
		0 give a=1 c=#7 b=#1 -> 9 p`)
	if len(i.Data())+len(i.Beside())+len(i.Journal()) > 0 || !sameRoute(i.Route(), routeWith(t, f, "")) {
		t.Error("an error changes something", answersText(i.Data()))
	}
	play(t, i, "1 give a=1 b=#1 c=#7 d='x' -> 0 p")
	holdState(t, i, "a=1 b=#1/1,2 c=#7/7,3,5,9 cc=2 d='x'", "a=1 b=#1 c=#7 d='x'", "", "3/3")
	// Answers replace others; Missing takes one back, but not one that is needed.
	play(t, i, "1 give d='y' c=- -> 0 p")
	holdState(t, i, "a=1 b=#1/1,2 c=-/7,3,5,9 cc=2 d='y'", "a=1 b=#1 d='y'", "", "3/3")
	play(t, i, "1 give a=- -> 12 p\n1 give b=- -> 12 p\n1 give d=- d=- -> 6 p\n1 give d=- e=1 -> 11 p\n2 give d=- -> 0 p\n2 give d=- -> 0 p")
	holdState(t, i, "a=1 b=#1/1,2 c=-/7,3,5,9 cc=2 d=-", "a=1 b=#1", "", "3/3")
	// The last one of what is given to a question counts, also if it was beside in between.
	play(t, i, "3 give c=#7 -> 0 p\n3 give b=#2 -> 0 p")
	holdState(t, i, "a=1 b=#2/1,2 c=-/3,5,9 cc=2 d=-", "a=1 b=#2", "c=#7", "2/2")
	play(t, i, "4 give a=2 -> 0 p")
	holdState(t, i, "a=2 c=-/3,5,9 cc=3 d=-", "a=2", "b=#2 c=#7", "2/2")
	play(t, i, "4 give a=refused c=#5 -> 0 p")
	holdState(t, i, "a=refused c=#5/3,5,9 cc=- d=-", "a=refused c=#5", "b=#2", "2/2")
	play(t, i, "4 give a=1 b=#1 c=- -> 0 p")
	holdState(t, i, "a=1 b=#1/1,2 c=-/7,3,5,9 cc=2 d=-", "a=1 b=#1", "", "3/3")
}

// TestChange holds the errors of Change, in order, and that it is possible anywhere up to the first page with something open (I5).
func TestChange(t *testing.T) {
	f := listed(t, `page p
  question a number 0 9 need
  compute ca = a
page q
  question b number 0 9
    check b < 5
  question c number 0 9
    if b = 3
page r
  question d number 0 9 need
page s
  if a > 0
  question e number 0 9 need
`)
	i := started(t, f, 0)
	play(t, i, `
		0 change ca=1 -> 5 p
		0 change p=1 -> 5 p
		0 change a.1=1 -> 3 p
		0 change c=1 -> 11 p
		0 change b=1 -> 11 p
		0 change e=99 -> 11 p
		0 change a=99 -> 1 p
		0 change a=- -> 12 p
		0 change a=1 -> 0 p
		0 change e=1 -> 11 p
		0 change d=1 -> 11 p
		0 change b=10 -> 1 p
		0 change b=9 -> 0 p
		0 change d=1 -> 11 p
		0 change b=3 -> 0 p
		0 change d=10 -> 1 p
		0 change d=1 -> 0 p
		0 change c=4 -> 0 p
		0 change c=- -> 0 p
		0 change c=5 -> 0 p
		0 change e=2 -> 0 p`)
	holdState(t, i, "a=1 ca=1", "a=1 b=3 c=5 d=1 e=2", "", "4/4")
	// A page is reachable if nothing ahead of it is open, whatever is open on it.
	play(t, i, "1 change b=8 -> 0 p\n1 change e=3 -> 11 p\n1 change d=3 -> 11 p\n1 change b=- -> 0 p\n1 change a=0 -> 0 p\n1 change e=3 -> 11 p")
	holdState(t, i, "a=0 ca=0", "a=0 d=1", "c=5 e=2", "2/3")
	if len(i.Journal()) != 11 {
		t.Error("Journal", len(i.Journal()))
	}
}

// TestJump holds the errors of Jump and which pages are reachable (I4, I6).
func TestJump(t *testing.T) {
	f := listed(t, `page p
  question a number 0 9
loop l count 2
  page q
    question b number 0 9 need
    compute cb = b
page r
  if a <> 2
page s
`)
	i := started(t, f, 0)
	play(t, i, `
		0 jump -> 9 p
		0 jump a -> 9 p
		0 jump l -> 9 p
		0 jump q -> 9 p
		0 jump q.0 -> 9 p
		0 jump q.3 -> 9 p
		0 jump q.1.1 -> 9 p
		0 jump q.1.1.1.1.1 -> 9 p
		0 jump p.1 -> 9 p
		0 jump r -> 9 p
		0 jump s -> 11 p
		0 jump q.2 -> 11 p
		0 jump q.1 -> 0 q.1
		0 jump q.1 -> 0 q.1
		0 jump p -> 0 p
		0 next -> 0 q.1
		0 next -> 12 q.1
		1 give b.1=1 -> 0 q.1
		2 jump q.2 -> 0 q.2
		2 jump s -> 11 q.2
		3 give b.2=1 -> 0 q.2
		4 jump s -> 0 s
		5 change b.1=2 -> 0 s
		6 jump p -> 0 p
		7 give a=1 -> 0 p
		8 jump r -> 0 r
		9 change a=2 -> 0 q.2
		9 jump r -> 9 q.2`)
	if got := spentText(i); got != "p=2 q.1=2 q.2=2 r=1 s=2" {
		t.Error("Spent", got)
	}
}

// TestPageBehindChange holds on which page an interview is when its own is gone: by the order of keys, not by that of Pages (I6).
func TestPageBehindChange(t *testing.T) {
	i := started(t, listed(t, `page zero
loop l count 3
  page o
  page p
    question q number 0 9
  end e
    if q = 1
page last
`), 0)
	play(t, i, `
		0 jump last -> 0 last
		0 change q.2=1 -> 0 p.2
		0 change q.2=2 -> 0 p.2
		0 jump o.3 -> 0 o.3
		0 change q.1=1 -> 0 o.1
		0 change q.1=2 -> 0 o.1
		0 jump p.3 -> 0 p.3
		0 change q.2=1 -> 0 p.2
		0 change q.1=1 -> 0 p.1
		0 change q.1=2 -> 0 p.1
		0 change q.2=2 -> 0 p.1`)
	// In which order the items of a shuffled block come depends on the seed; the page whose key is first may come last.
	f := listed(t, `block b shuffle
  page o
  block x
    page p
      question q number 0 9
    page r
    end e
      if q = 1
`)
	seen := map[bool]bool{}
	for n := range 20 {
		seed := strconv.Itoa(n)
		order, _ := quest.Arranged(f, seed, "b", nil)
		i, _ := New(f, seed, 0)
		seen[order[0] == 1] = true
		if order[0] == 1 {
			play(t, i, "0 next -> 0 r\n0 next -> 0 o\n0 change q=1 -> 0 p\n0 change q=2 -> 0 p")
			continue
		}
		play(t, i, "0 next -> 0 p\n0 next -> 0 r\n0 change q=1 -> 0 r")
	}
	if len(seen) != 2 {
		t.Error("one order alone")
	}
}

// TestReachableByPages holds that it is the order of Pages by which pages are reachable, and by which Next and Back go (I4, I6).
func TestReachableByPages(t *testing.T) {
	f := listed(t, "block b shuffle\n  page p\n    question x number 0 9 need\n  page q\n    question y number 0 9 need\n  page r\n    question z number 0 9 need\n")
	for n := range 10 {
		seed := strconv.Itoa(n)
		i, _ := New(f, seed, 0)
		order, _ := quest.Arranged(f, seed, "b", nil)
		var pages, questions []string
		for _, n := range order {
			pages = append(pages, []string{"p", "q", "r"}[n])
			questions = append(questions, []string{"x", "y", "z"}[n])
		}
		play(t, i, strings.NewReplacer("P0", pages[0], "P1", pages[1], "P2", pages[2], "Q0", questions[0], "Q1", questions[1], "Q2", questions[2]).Replace(`
			0 back -> 9 P0
			0 jump P1 -> 11 P0
			0 change Q1=1 -> 11 P0
			0 give Q1=1 -> 11 P0
			0 change Q0=1 -> 0 P0
			0 jump P2 -> 11 P0
			0 change Q2=1 -> 11 P0
			0 next -> 0 P1
			0 next -> 12 P1
			0 change Q1=1 -> 0 P1
			0 next -> 0 P2
			0 next -> 12 P2
			0 finish -> 12 P2
			0 back -> 0 P1
			0 back -> 0 P0
			0 jump P2 -> 0 P2
			0 give Q2=1 -> 0 P2
			0 next -> 9 P2
			0 back -> 0 P1
			0 finish -> 0 P1`))
	}
}

// TestOpenInOrder holds that Next and Finish have the Open of the first element that has one (I6).
func TestOpenInOrder(t *testing.T) {
	f := listed(t, `page p
  question a number 0 9
    check a < 5 or not answered(a)
  question b number 0 9 need
page q
  question c number 0 9 need
  question d number 0 9
    check d < 5 or not answered(d)
`)
	i := started(t, f, 0)
	play(t, i, `
		0 next -> 12 p
		0 give a=9 -> 0 p
		0 next -> 13 p
		0 finish -> 13 p
		0 give b=9 -> 0 p
		0 next -> 13 p
		0 give a=1 -> 0 p
		0 finish -> 12 p
		0 next -> 0 q
		0 give d=9 -> 0 q
		0 next -> 12 q
		0 finish -> 12 q
		0 change a=9 -> 0 q
		0 next -> 12 q
		0 finish -> 13 q
		0 change a=1 -> 0 q
		0 give c=1 -> 0 q
		0 next -> 13 q
		0 back -> 0 p
		0 give a=9 -> 0 p
		0 back -> 9 p
		0 jump q -> 11 p
		0 give a=- -> 0 p
		0 next -> 0 q
		0 give d=4 -> 0 q
		0 next -> 9 q
		0 finish -> 0 q`)
}

// TestSpent holds the minutes of pages, also of those that the route has no more (I7).
func TestSpent(t *testing.T) {
	i := started(t, listed(t, homeLines), 100)
	play(t, i, "103 give got=#1 -> 0 start\n105 next -> 0 number\n105 give many=2 -> 0 number\n105 next -> 0 kid.1\n110 give age.1=5 -> 0 kid.1\n112 next -> 0 kid.2")
	if got := spentText(i); got != "start=5 number=0 kid.1=7 kid.2=0" {
		t.Error("Spent", got)
	}
	play(t, i, "119 next -> 12 kid.2\n120 change many=1 -> 0 kid.1\n121 change got=#2 -> 0 start\n130 jump last -> 0 last")
	if got := spentText(i); got != "start=14 number=0 kid.1=8 kid.2=8 last=0" {
		t.Error("Spent", got)
	}
	play(t, i, "131 give bye={#3,#9} -> 17 last\n132 give bye={#7,#9} -> 0 last\n133 jump last -> 0 last\n140 finish -> 0 last\n150 next -> 21 last")
	if got := spentText(i); got != "start=14 number=0 kid.1=8 kid.2=8 last=10" {
		t.Error("Spent", got)
	}
}
