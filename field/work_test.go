package field

import (
	"testing"

	"canvass/api"
)

// TestAnswer holds the errors of Answer, in order, and its event (L5).
func TestAnswer(t *testing.T) {
	p := workPlan(t)
	d := deviceWith(t, p, 1, `
		1.0.1 create 1 1 s
		2.0.2 create 2 2 s
		3.0.3 create 3 2 s
		4.1.1 complete 3 -1 0 sex=refused`)
	play(t, d, `
		answer 4 nobody=1 -> 9
		answer -5 nobody=1 -> 9
		answer 3 nobody=1 -> 21
		answer 2 nobody=1 -> 20
		answer 1 nobody=1 -> 5
		answer 1 old=1 -> 5
		answer 1 age=1 -> 3
		answer 1 age.0=1 -> 1
		answer 1 sex=true -> 4
		answer 1 kids=1 -> 11
		answer 1 age.1=- -> 11
		answer 1 age.1='x' -> 11
		answer 1 sex='x' -> 8
		answer 1 sex=dontknow -> 8
		answer 1 sex=#3 -> 9
		answer 1 sex=#4 -> 9
		answer 1 sex=#2 @7 -> 0
		answer 1 kids=10 -> 1
		answer 1 kids=0.5 -> 3
		answer 1 kids=2 -> 0
		answer 1 age.3=2 -> 11
		answer 1 age.2=2 -> 0
		answer 1 age.2=- -> 0
		answer 1 age.1=- -> 0
		answer 1 sex=- -> 0
		answer 1 age.1=1 -> 11
		answer 1 kids=- -> 11
		answer 1 sex=#2 -> 0
		answer 1 age.1=5 @8 -> 0
		answer 1 kids=9 -> 0`)
	holdEvents(t, d, `
		1.0.1 create 1 1 s
		2.0.2 create 2 2 s
		3.0.3 create 3 2 s
		4.1.1 complete 3 -1 0 sex=refused
		5.1.2 answer 1 sex=#2 @7
		6.1.3 answer 1 kids=2
		7.1.4 answer 1 age.2=2
		8.1.5 answer 1 age.2=-
		9.1.6 answer 1 age.1=-
		10.1.7 answer 1 sex=-
		11.1.8 answer 1 sex=#2
		12.1.9 answer 1 age.1=5 @8
		13.1.10 answer 1 kids=9`)
	is(t, "State", stateText(d.State()), "1:s:1[sex=#2 kids=9 age.1=5] 2:s:2[] 3:s:2[sex=refused]-1@0 [0 0 0] 0")
	wrong := api.Given{Key: api.Key{Name: "sex"}, Value: api.Value{Kind: 9}}
	if fault := d.Answer(1, wrong, 0); fault != api.ErrKind {
		t.Error("Answer", fault)
	}
	wrong.Value = api.Value{Kind: api.Choice, N: 1, S: "x"}
	if fault := d.Answer(1, wrong, 0); fault != api.ErrForm {
		t.Error("Answer", fault)
	}
}

// TestAnswerOffers holds that an answer is accepted with the options that the route offers then (L5).
func TestAnswerOffers(t *testing.T) {
	p := planWith(t, "form f 1\nlanguages en\nlist l\n  option 1\n  option 2\n  option 3\npage p\n  question a choices l 0 3\n  question b choice l need\n    only a has option\n")
	d := deviceWith(t, p, 1, "1.0.1 create 1 1 s")
	play(t, d, `
		answer 1 b=#1 -> 9
		answer 1 a={#1,#3} -> 0
		answer 1 b=#2 -> 9
		answer 1 b=#3 -> 0
		complete 1 @5 -> 0
		answer 1 b=- -> 21`)
	is(t, "State", stateText(d.State()), "1:s:1[a={#1,#3} b=#3]-1@5 [] 0")
	d = deviceWith(t, p, 1, "1.0.1 create 1 1 s\n2.1.1 answer 1 a={#1,#3}\n3.1.2 answer 1 b=#3")
	play(t, d, "answer 1 a={#1} -> 0\ncomplete 1 -> 12\nanswer 1 b=- -> 0\nanswer 1 a=- -> 0\ncomplete 1 -> 12")
}

// TestAnswerTooMuch holds that a route that is too large is an error, ahead of what its questions say, and behind it (L5).
func TestAnswerTooMuch(t *testing.T) {
	p := bigPlan(t)
	codes := "{#1,#2,#3,#4,#5,#6,#7,#8,#9,#10,#11,#12,#13,#14,#15"
	d := deviceWith(t, p, 1, "1.0.1 create 1 1 s")
	play(t, d, "answer 1 n="+allCodes+" -> 2\nanswer 1 n="+codes+",#16} -> 2\nanswer 1 n="+codes+"} -> 0\nanswer 1 q188.15=1 -> 0\nanswer 1 q188.16=1 -> 11\nanswer 1 n="+codes+",#30} -> 9\ncomplete 1 -> 0")
	// Joined answers can be too many.
	d = deviceWith(t, p, 1, "1.0.1 create 1 1 s\n2.1.1 answer 1 n="+allCodes)
	play(t, d, "answer 1 nobody=1 -> 5\nanswer 1 q1=- -> 3\nanswer 1 q1.100=1 -> 2\nanswer 1 k='x' -> 2\nanswer 1 n=- -> 2\ncomplete 1 -> 2")
}

// TestComplete holds the errors of Complete, in order, and its event (L5).
func TestComplete(t *testing.T) {
	p := workPlan(t)
	d := deviceWith(t, p, 1, `
		1.0.1 create 1 1 s
		2.0.2 create 2 2 s
		3.0.3 create 3 1 s
		4.0.4 create 4 1 s
		5.0.5 grant 5 2 1
		6.0.6 grant 4 0 1
		7.0.7 grant 3 0 1
		8.0.8 grant 2 0 2
		9.1.1 complete 3 -1 0 sex=refused`)
	play(t, d, `
		complete 5 -> 9
		complete 3 -> 21
		complete 2 -> 20
		complete 1 -> 12
		answer 1 sex=#2 -> 0
		answer 1 kids=9 -> 0
		complete 1 -> 13
		answer 1 kids=1 -> 0
		answer 1 age.1=5 -> 0
		complete 1 -> 15
		answer 1 sex=#1 -> 0
		complete 1 @6 -> 0
		answer 1 sex=#1 -> 21
		complete 1 -> 21
		answer 4 sex=refused -> 0
		complete 4 @7 -> 0`)
	l := d.Events()
	is(t, "the first completion", eventText(l[14]), eventText(event(t, "15.1.7 complete 1 0 3 sex=#1 @6")))
	is(t, "the second completion", eventText(l[16]), eventText(event(t, "17.1.9 complete 4 -1 0 sex=refused @7")))
	is(t, "State", stateText(d.State()), "1:s:1[sex=#1]0@6 2:s:2[] 3:s:1[sex=refused]-1@0 4:s:1[sex=refused]-1@7 2:0:2:out 3:0:1:used 4:0:1:out 5:2:1:out [1 0 0] 0")
}

// TestCompletePermits holds with which permits a case is completed (L5).
func TestCompletePermits(t *testing.T) {
	p := workPlan(t)
	ready := "1.0.1 create 1 1 s\n2.0.2 create 2 1 s\n3.1.1 answer 1 sex=#1\n4.1.2 answer 2 sex=#1\n"
	for _, x := range []struct{ lines, script, permits string }{
		{"", "complete 1 -> 15", ""},
		{"5.0.3 grant 7 0 1\n6.0.4 grant 3 0 1", "complete 1 -> 0\ncomplete 2 -> 0", "3 7"},
		{"5.0.3 grant 7 0 1\n6.0.4 grant 3 0 1\n7.1.3 return 3", "complete 1 -> 0\ncomplete 2 -> 15", "7"},
		{"5.0.3 grant 7 1 1\n6.0.4 grant 3 2 1\n7.0.5 grant 9 0 2", "complete 1 -> 15", ""},
		// A permit that was used in vain is out.
		{"5.0.3 grant 3 0 1\n6.1.3 complete 9 0 3 sex=#1", "complete 2 -> 0\ncomplete 1 -> 15", "3"},
		// Those of a device that knows that it is lost are back.
		{"5.0.3 grant 3 0 1\n6.0.4 writeoff 1 2", "complete 1 -> 15", ""},
		{"5.0.3 grant 3 0 1\n6.1.3 complete 9 0 3 sex=#1\n7.0.4 writeoff 1 9", "complete 1 -> 0", "3"},
	} {
		d := deviceWith(t, p, 1, ready+x.lines)
		n := len(d.Events())
		play(t, d, x.script)
		var permits []int
		for _, e := range d.Events()[n:] {
			permits = append(permits, e.Permit)
		}
		is(t, x.lines, permits, "["+x.permits+"]")
	}
	// Where Given is accepted no more, the data alone are told.
	d := deviceWith(t, p, 1, "1.0.1 create 1 1 s\n2.0.2 grant 1 2 1\n3.1.1 answer 1 age.2=2\n4.1.2 answer 1 kids=1\n5.1.3 answer 1 sex=#2\n6.1.4 answer 1 age.1='x'")
	play(t, d, "complete 1 -> 0")
	is(t, "the data", eventText(d.Events()[6]), eventText(event(t, "7.1.5 complete 1 2 1 sex=#2 kids=1")))
	is(t, "State", stateText(d.State()), "1:s:1[sex=#2 kids=1]2@0 1:2:1:used [0 0 1] 0")
}

// TestLostDeviceWorks holds that a device that knows that it is lost can go on, in vain (L4, L5).
func TestLostDeviceWorks(t *testing.T) {
	p := workPlan(t)
	d := deviceWith(t, p, 1, "1.0.1 create 1 1 s\n2.0.2 grant 1 0 1\n3.1.1 answer 1 sex=refused\n4.0.3 writeoff 1 1")
	play(t, d, "answer 1 sex=#1 -> 0\nreturn 1 -> 11\ncomplete 1 -> 0\ncomplete 1 -> 0")
	is(t, "State", stateText(d.State()), "1:s:1[sex=refused] 1:0:1:back [0 0 0] 3")
	holdEvents(t, d, "1.0.1 create 1 1 s\n2.0.2 grant 1 0 1\n3.1.1 answer 1 sex=refused\n4.0.3 writeoff 1 1\n5.1.2 answer 1 sex=#1\n6.1.3 complete 1 -1 0 sex=refused\n7.1.4 complete 1 -1 0 sex=refused")
	// The centre creates what a lost device, or none, has worked on.
	c := deviceWith(t, p, 0, "1.1.1 answer 1 sex=#1\n2.1.2 complete 1 0 1 sex=#1\n3.1.3 return 2")
	c.State()
	play(t, c, "create 1 1 s -> 0\ngrant 0 1 -> 0\ngrant 0 1 -> 0\ngrant 0 1 -> 0")
	is(t, "State", stateText(c.State()), "1:s:1[sex=#1]0@0 1:0:1:used 2:0:1:back 3:0:1:out [1 0 0] 0")
}

// TestMuchWork fills a set by calls (L5), none of which goes through all others: that would take long.
func TestMuchWork(t *testing.T) {
	p := planWith(t, workLines, "men 2000 sex = #1")
	c, d := device(t, p, 0), device(t, p, 1)
	must := func(fault api.Fault) {
		t.Helper()
		if fault != api.OK {
			t.Fatal("a call", fault)
		}
	}
	for i := range api.MaxCases {
		must(c.Create(i+1, "s", 1, 0))
		_, fault := c.Grant(0, 1, 0)
		must(fault)
	}
	sync(t, c, d)
	for i := range api.MaxCases {
		for n := range 7 {
			must(d.Answer(i+1, answer(t, []string{"sex=#2", "sex=#1"}[n%2]), n))
		}
		must(d.Answer(i+1, answer(t, "sex=#1"), i))
		if i%2 == 0 {
			must(d.Complete(i+1, i))
		} else {
			must(d.Return(i+1, i))
		}
		if n := len(d.Known()); n != 2 {
			t.Fatal("Known", n)
		}
		if 2*api.MaxCases+9*(i+1)+9 > api.MaxEvents {
			break
		}
	}
	sync(t, d, c)
	s := c.State()
	n := (api.MaxEvents - 2*api.MaxCases) / 9
	is(t, "Filled", s.Filled, []int{(n + 1) / 2})
	is(t, "the same state", stateText(s), stateText(d.State()))
	for len(c.Events()) < api.MaxEvents {
		must(c.Assign(1, 2, 0))
	}
	if fault := c.Assign(1, 2, 0); fault != api.ErrLarge {
		t.Error("Assign to a full set", fault)
	}
}
