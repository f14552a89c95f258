package field

import (
	"slices"
	"strings"
	"testing"

	"canvass/api"
)

// said is a set of events and what it says.
type said struct{ name, lines, want string }

// holdStates holds what sets say: by StateOf, for a device that is restored, and for devices that receive the events one by one, forth, or all at once behind others.
func holdStates(t *testing.T, p api.Plan, l []said) {
	t.Helper()
	for _, x := range l {
		set := events(t, x.lines)
		s, fault := StateOf(p, set)
		if fault != api.OK {
			t.Error(x.name, "StateOf", fault)
		}
		is(t, x.name, stateText(s), x.want)
		is(t, x.name+", made a second time", stateText(secondState(p, set)), x.want)
		is(t, x.name+", restored", stateText(deviceWith(t, p, 7, x.lines).State()), x.want)
		d := device(t, p, 7)
		for _, e := range set {
			d.State()
			if fault := d.Receive(api.Packet{Events: []api.Event{e}}); fault != api.OK {
				t.Error(x.name, "Receive", fault)
			}
		}
		is(t, x.name+", one by one", stateText(d.State()), x.want)
		d = device(t, p, 7)
		for _, isOf := range []func(e api.Event) bool{func(e api.Event) bool { return e.Device != 0 }, func(api.Event) bool { return true }} {
			part := slices.DeleteFunc(slices.Clone(set), func(e api.Event) bool { return !isOf(e) })
			if fault := d.Receive(api.Packet{Events: part}); fault != api.OK {
				t.Error(x.name, "Receive", fault)
			}
			d.State()
		}
		is(t, x.name+", the centre last", stateText(d.State()), x.want)
	}
}

// TestWrittenOff holds which events are refused (L4.1).
func TestWrittenOff(t *testing.T) {
	holdStates(t, workPlan(t), []said{
		{"nothing", "", " [0 0 0] 0"},
		{"the example", "1.0.1 create 1 1 s\n2.0.2 grant 1 0 1\n3.0.3 writeoff 1 0\n4.0.4 grant 2 0 3\n4.1.1 complete 1 0 1 sex=#1", "1:s:1[] 1:0:1:back 2:0:3:out [0 0 0] 1"},
		{"Last", "1.0.1 create 1 1 s\n2.1.1 answer 1 sex=#1\n3.1.2 answer 1 sex=#2\n3.2.1 answer 1 kids=1\n4.1.3 answer 1 kids=2\n5.0.2 writeoff 1 2", "1:s:1[sex=#2 kids=1] [0 0 0] 1"},
		{"a write-off ahead of the events", "1.0.1 create 1 1 s\n2.0.2 writeoff 1 1\n3.1.1 answer 1 sex=#1\n4.1.2 answer 1 sex=#2", "1:s:1[sex=#1] [0 0 0] 1"},
		{"more than there is", "1.0.1 create 1 1 s\n2.0.2 writeoff 1 9\n3.1.1 answer 1 sex=#1", "1:s:1[sex=#1] [0 0 0] 0"},
		{"the first one counts", "1.0.1 create 1 1 s\n2.0.2 writeoff 1 1\n3.1.1 answer 1 sex=#1\n4.0.3 writeoff 1 0\n5.1.2 answer 1 sex=#2\n6.0.4 writeoff 1 9", "1:s:1[sex=#1] [0 0 0] 1"},
		{"two devices", "1.0.1 create 1 1 s\n2.0.2 writeoff 2 0\n2.1.1 answer 1 sex=#1\n2.2.1 answer 1 sex=#2\n3.0.3 writeoff 1 0\n3.2.2 answer 1 kids=1\n4.1.2 answer 1 kids=2\n5.3.1 answer 1 kids=3", "1:s:1[kids=3] [0 0 0] 4"},
		{"the centre's own answers stay", "1.0.1 create 1 1 s\n2.0.2 writeoff 1 0\n3.0.3 answer 1 sex=#1", "1:s:1[sex=#1] [0 0 0] 0"},
	})
}

// TestCases holds which cases exist, their seeds, devices and answers (L4.2, L4.5).
func TestCases(t *testing.T) {
	holdStates(t, workPlan(t), []said{
		{"by number", "1.0.1 create 2 3 b\n2.0.2 create 1 4 a", "1:a:4[] 2:b:3[] [0 0 0] 0"},
		{"the first one counts", "1.0.1 create 1 1 a\n2.0.2 create 1 2 b", "1:a:1[] [0 0 0] 0"},
		{"the last device", "1.0.1 create 1 1 a\n2.0.2 assign 1 3\n3.0.3 assign 1 2\n4.0.4 create 1 9 b", "1:a:2[] [0 0 0] 0"},
		{"assigned behind a second one", "1.0.1 create 1 1 a\n2.0.2 create 1 9 b\n3.0.3 assign 1 3\n4.0.4 assign 2 4", "1:a:3[] [0 0 0] 0"},
		{"assigned ahead", "1.0.1 assign 1 5\n2.0.2 create 1 1 a", "1:a:1[] [0 0 0] 0"},
		{"no case", "1.0.1 assign 1 5\n2.1.1 answer 1 sex=#1\n3.1.2 complete 1 -1 0", " [0 0 0] 0"},
		{"answers ahead of the case", "1.1.1 answer 1 sex=#1\n2.0.1 create 1 2 a", "1:a:2[sex=#1] [0 0 0] 0"},
		{"the last answer, in the order of keys", "1.0.1 create 1 1 a\n2.1.1 answer 1 age.2=7\n2.2.1 answer 1 age.1=8\n3.1.2 answer 1 sex=#1\n3.2.2 answer 1 sex=#2\n4.1.3 answer 1 age.2=9\n5.1.4 answer 1 kids=dontknow", "1:a:1[sex=#2 kids=dontknow age.1=8 age.2=9] [0 0 0] 0"},
		{"taken back", "1.0.1 create 1 1 a\n2.1.1 answer 1 sex=#1\n3.1.2 answer 1 kids=1\n4.1.3 answer 1 sex=-\n5.1.4 answer 1 age.1=-\n6.1.5 answer 1 kids=-\n7.1.6 answer 1 kids=2", "1:a:1[kids=2] [0 0 0] 0"},
		{"other answers for other cases", "1.0.1 create 1 1 a\n2.0.2 create 2 1 a\n3.1.1 answer 1 sex=#1\n4.1.2 answer 2 sex=#2", "1:a:1[sex=#1] 2:a:1[sex=#2] [0 0 0] 0"},
		{"what is not accepted", "1.0.1 create 1 1 a\n2.1.1 answer 1 sex=#3\n3.1.2 answer 1 age.9='x'", "1:a:1[sex=#3 age.9='x'] [0 0 0] 0"},
	})
}

// TestPermits holds which permits exist, and their states (L4.3, L4.6).
func TestPermits(t *testing.T) {
	holdStates(t, workPlan(t), []said{
		{"by number", "1.0.1 grant 9 2 1\n2.0.2 grant 3 0 2", "3:0:2:out 9:2:1:out [0 0 0] 0"},
		{"the first one counts", "1.0.1 grant 1 2 1\n2.0.2 grant 1 0 2\n3.2.1 return 1", "1:2:1:out [0 0 0] 0"},
		{"returned", "1.0.1 grant 1 2 1\n2.1.1 return 1", "1:2:1:back [0 0 0] 0"},
		{"returned by another device", "1.0.1 grant 1 2 1\n2.2.1 return 1", "1:2:1:out [0 0 0] 0"},
		{"returned ahead of the grant", "1.1.1 return 1\n2.0.1 grant 1 2 1", "1:2:1:back [0 0 0] 0"},
		{"a refused return", "1.0.1 grant 1 2 1\n2.0.2 writeoff 1 1\n3.1.1 complete 5 2 1\n4.1.2 return 1", "1:2:1:out [0 0 0] 1"},
		{"no permit", "1.1.1 return 1\n2.1.2 complete 1 0 2", " [0 0 0] 0"},
		{"of a lost device", "1.0.1 grant 1 2 1\n2.0.2 grant 2 2 2\n3.0.3 writeoff 1 0", "1:2:1:back 2:2:2:out [0 0 0] 0"},
		{"of a lost device, by whose completion it stays out", "1.0.1 grant 1 2 1\n2.1.1 complete 5 0 1\n3.0.2 writeoff 1 1", "1:2:1:out [0 0 0] 0"},
		{"of a lost device, whose completion is refused", "1.0.1 grant 1 2 1\n2.1.1 complete 5 0 1\n3.0.2 writeoff 1 0", "1:2:1:back [0 0 0] 1"},
		{"of a lost device, with a completion of another one", "1.0.1 grant 1 2 1\n2.2.1 complete 5 0 1\n3.0.2 writeoff 1 0", "1:2:1:back [0 0 0] 0"},
		{"of a lost device, returned", "1.0.1 grant 1 2 1\n2.1.1 complete 5 0 1\n3.1.2 return 1\n4.0.2 writeoff 1 2", "1:2:1:back [0 0 0] 0"},
		{"used by a lost device", "1.0.1 create 1 1 a\n2.0.2 grant 1 0 1\n3.1.1 complete 1 0 1 sex=#1 @4\n4.0.3 writeoff 1 1", "1:a:1[sex=#1]0@4 1:0:1:used [1 0 0] 0"},
	})
}

// TestCompletions holds which completions count (L4.4, L4.5, L4.6).
func TestCompletions(t *testing.T) {
	holdStates(t, workPlan(t), []said{
		{"none", "1.0.1 create 1 1 a\n2.1.1 complete 1 -1 0 sex=refused @8", "1:a:1[sex=refused]-1@8 [0 0 0] 0"},
		{"each cell", "1.0.1 create 1 1 a\n2.0.2 create 2 1 a\n3.0.3 create 3 1 a\n4.0.4 grant 1 1 1\n5.0.5 grant 2 2 1\n6.1.1 complete 1 1 1 sex=#2 kids=2 age.1=17\n7.1.2 complete 2 2 2 sex=#2 @3\n8.1.3 complete 3 0 2 sex=#1", "1:a:1[sex=#2 kids=2 age.1=17]1@0 2:a:1[sex=#2]2@3 3:a:1[] 1:1:1:used 2:2:1:used [0 1 1] 0"},
		{"no case", "1.0.1 grant 1 0 1\n2.1.1 complete 1 0 1 sex=#1", "1:0:1:out [0 0 0] 0"},
		{"ahead of its case and its permit", "1.1.1 complete 1 0 1 sex=#1\n2.0.1 create 1 2 a\n3.0.2 grant 1 0 1", "1:a:2[sex=#1]0@0 1:0:1:used [1 0 0] 0"},
		{"the first one for a case", "1.0.1 create 1 1 a\n2.1.1 complete 1 -1 0 sex=refused @1\n2.2.1 complete 1 -1 0 sex=refused @2", "1:a:1[sex=refused]-1@1 [0 0 0] 0"},
		{"the first one that counts", "1.0.1 create 1 1 a\n2.1.1 complete 1 -1 0 @1\n3.2.1 complete 1 -1 0 sex=refused @2", "1:a:1[sex=refused]-1@2 [0 0 0] 0"},
		{"something open", "1.0.1 create 1 1 a\n2.1.1 complete 1 -1 0\n3.1.2 complete 1 2 1 sex=#2 kids=9\n4.0.2 grant 1 2 1", "1:a:1[] 1:2:1:out [0 0 0] 0"},
		{"not all, or not in order", "1.0.1 create 1 1 a\n2.0.2 grant 1 1 1\n3.1.1 complete 1 1 1 kids=1 sex=#2 age.1=1\n4.1.2 complete 1 1 1 sex=#2 age.1=1 kids=1", "1:a:1[] 1:1:1:out [0 0 0] 0"},
		{"more than the data", "1.0.1 create 1 1 a\n2.0.2 grant 1 0 1\n3.1.1 complete 1 0 1 sex=#1 kids=1\n4.1.2 complete 1 0 1 sex=#1 kids=-\n5.1.3 complete 1 -1 0 sex=refused age.1=3", "1:a:1[] 1:0:1:out [0 0 0] 0"},
		{"another cell", "1.0.1 create 1 1 a\n2.0.2 grant 1 2 1\n3.1.1 complete 1 2 1 sex=#1\n4.1.2 complete 1 -1 0 sex=#1\n5.1.3 complete 1 2 1 sex=refused", "1:a:1[] 1:2:1:out [0 0 0] 0"},
		{"a permit for another cell", "1.0.1 create 1 1 a\n2.0.2 grant 1 2 1\n3.1.1 complete 1 0 1 sex=#1", "1:a:1[] 1:2:1:out [0 0 0] 0"},
		{"a permit of another device", "1.0.1 create 1 1 a\n2.0.2 grant 1 0 2\n3.1.1 complete 1 0 1 sex=#1", "1:a:1[] 1:0:2:out [0 0 0] 0"},
		{"by another device than that of the case", "1.0.1 create 1 1 a\n2.0.2 grant 1 0 2\n3.2.1 complete 1 0 1 sex=#1", "1:a:1[sex=#1]0@0 1:0:2:used [1 0 0] 0"},
		{"a permit that is used", "1.0.1 create 1 1 a\n2.0.2 create 2 1 a\n3.0.3 grant 1 0 1\n4.1.1 complete 2 0 1 sex=#1\n5.1.2 complete 1 0 1 sex=#1", "1:a:1[] 2:a:1[sex=#1]0@0 1:0:1:used [1 0 0] 0"},
		{"a permit that was used in vain", "1.0.1 create 1 1 a\n2.0.2 create 2 1 a\n3.0.3 grant 1 0 1\n4.1.1 complete 2 0 1 sex=#2\n5.1.2 complete 1 0 1 sex=#1", "1:a:1[sex=#1]0@0 2:a:1[] 1:0:1:used [1 0 0] 0"},
		{"a permit that is returned", "1.0.1 create 1 1 a\n2.0.2 grant 1 0 1\n3.1.1 return 1\n4.1.2 complete 1 0 1 sex=#1", "1:a:1[] 1:0:1:back [0 0 0] 0"},
		{"a permit that is returned behind it", "1.0.1 create 1 1 a\n2.0.2 grant 1 0 1\n3.1.1 complete 1 0 1 sex=#1\n4.1.2 return 1", "1:a:1[] 1:0:1:back [0 0 0] 0"},
		{"a permit that another device returned", "1.0.1 create 1 1 a\n2.0.2 grant 1 0 1\n3.2.1 return 1\n4.1.1 complete 1 0 1 sex=#1", "1:a:1[sex=#1]0@0 1:0:1:used [1 0 0] 0"},
		{"refused, so that another one counts", "1.0.1 create 1 1 a\n2.0.2 grant 1 0 1\n3.0.3 grant 2 0 2\n4.1.1 complete 1 0 1 sex=#1 @1\n5.2.1 complete 1 0 2 sex=#1 @2\n6.0.4 writeoff 1 0", "1:a:1[sex=#1]0@2 1:0:1:back 2:0:2:used [1 0 0] 1"},
		{"answers behind it", "1.0.1 create 1 1 a\n2.1.1 answer 1 kids=5\n3.1.2 complete 1 -1 0 sex=refused\n4.1.3 answer 1 sex=#1\n5.0.2 assign 1 4", "1:a:4[sex=refused]-1@0 [0 0 0] 0"},
		{"a return by which another one counts", "1.0.1 create 1 1 a\n1.2.1 return 9\n2.0.2 grant 1 0 1\n3.0.3 grant 2 0 1\n4.1.1 complete 1 0 1 sex=#1 @1\n5.1.2 complete 1 0 2 sex=#1 @2\n6.1.3 return 1", "1:a:1[sex=#1]0@2 1:0:1:back 2:0:1:used [1 0 0] 0"},
	})
}

// TestCellsApart holds that the cell of a completion depends on no other one (L4.4).
func TestCellsApart(t *testing.T) {
	p := planWith(t, workLines, "one 5 kids = 1", "young 5 any(row: age < 18)", "men 5 sex = #1")
	holdStates(t, p, []said{
		{"apart", `
			1.0.1 create 1 1 a
			2.0.2 create 2 1 a
			3.0.3 create 3 1 a
			4.0.4 create 4 1 a
			5.0.5 grant 1 0 1
			6.0.6 grant 2 2 1
			7.0.7 grant 3 1 1
			8.1.1 complete 1 0 1 sex=#2 kids=1 age.1=5
			9.1.2 complete 2 2 2 sex=#1
			10.1.3 complete 3 1 3 sex=#2 kids=2 age.1=5
			11.1.4 complete 4 -1 0 sex=refused`, "1:a:1[sex=#2 kids=1 age.1=5]0@0 2:a:1[sex=#1]2@0 3:a:1[sex=#2 kids=2 age.1=5]1@0 4:a:1[sex=refused]-1@0 1:0:1:used 2:2:1:used 3:1:1:used [1 1 1] 0"},
	})
}

// TestSeedMatters holds that a completion is judged by the seed of its case, which is that of the first EvCreate (L4.2, L4.4).
func TestSeedMatters(t *testing.T) {
	p := planWith(t, "form f 1\nlanguages en\nblock b shuffle\n  page x\n    question q number 0 9\n  end e\n", "given 1 answered(q)")
	asks := ""
	for seed := 'a'; asks == "" || len(asks) < 2; seed++ {
		cell, _ := CellOf(p, string(seed), answers(t, "q=1"))
		if (cell == 0) == (asks == "") { // first a seed by which q is asked, then one by which it is not
			asks += string(seed)
		}
	}
	first, other := asks[:1], asks[1:]
	lines := "1.0.1 grant 1 0 1\n2.0.2 create 1 1 " + first + "\n3.1.1 complete 1 0 1 q=1\n4.0.3 create 1 1 " + other
	holdStates(t, p, []said{
		{"asked", lines, "1:" + first + ":1[q=1]0@0 1:0:1:used [1] 0"},
		{"not asked", strings.NewReplacer(" "+first, " "+other, " "+other, " "+first).Replace(lines), "1:" + other + ":1[] 1:0:1:out [0] 0"},
	})
}

// TestLargeCompletion holds that a completion whose route is too large does not count (L4.4).
func TestLargeCompletion(t *testing.T) {
	p := bigPlan(t)
	holdStates(t, p, []said{
		{"too large", "1.0.1 create 1 1 a\n2.1.1 complete 1 -1 0 n=" + allCodes, "1:a:1[] [0] 0"},
		{"large", "1.0.1 create 1 1 a\n2.1.1 complete 1 -1 0 n={#1,#2,#3,#4,#5,#6,#7,#8,#9,#10,#11,#12,#13,#14,#20}", "1:a:1[n={#1,#2,#3,#4,#5,#6,#7,#8,#9,#10,#11,#12,#13,#14,#20}]-1@0 [0] 0"},
	})
}
