package proof

import (
	"slices"
	"strconv"
	"strings"
	"testing"

	"canvass/api"
)

const armyLines = `page p
  question sex choice two need
  question army choice two need
    if sex = #1
  question rank number 0 9
    if army = #1 and sex = #2
`

func TestDocumentExample(t *testing.T) {
	f := pagesOf(t, armyLines)
	if l, fault := Dead(f); !slices.Equal(l, []string{"rank"}) || fault != api.OK {
		t.Error("Dead", l, fault)
	}
	if l, fault := Constant(f); !slices.Equal(l, []api.Fact{{Name: "rank"}}) || fault != api.OK {
		t.Error("Constant", l, fault)
	}
	f = pagesOf(t, armyLines+"end e\n  if answered(army) or sex = #2\npage q\n  question more text 0 5\nend z\n")
	if l, fault := Dead(f); !slices.Equal(l, []string{"rank", "q", "more", "z"}) || fault != api.OK {
		t.Error("Dead behind an end", l, fault)
	}
	if l, fault := Constant(f); !slices.Equal(l, []api.Fact{{Name: "rank"}, {Name: "e", Is: true}}) || fault != api.OK {
		t.Error("Constant with an end", l, fault)
	}
}

// holdReach holds what Reach returns.
func holdReach(t *testing.T, f api.Form, name, want string) {
	t.Helper()
	if l, fault := Reach(f, name); wordsOf(l) != want || fault != api.OK {
		t.Error("Reach", name, wordsOf(l), fault)
	}
}

func TestReachAnItem(t *testing.T) {
	f := pagesOf(t, armyLines+`  question years number 0 50 need
    if army = #1
page q
  if years >= 50
  question medal choice two need
    only option = #1 and sex = #2
  question shape choice two need
    if asked(medal) and not answered(medal)
end e
  if asked(army) and not army in {#1}
end z
page r
`)
	holdReach(t, f, "p", "")
	holdReach(t, f, "army", "sex #1 ")
	holdReach(t, f, "years", "sex #1 army #1 ")
	holdReach(t, f, "q", "sex #1 army #1 years 50 ")
	holdReach(t, f, "medal", "sex #1 army #1 years 50 ")
	// A question that is stuck has Missing.
	if l, _ := Depends(f, "shape"); !slices.Equal(l, []string{"sex", "army", "years", "medal"}) {
		t.Error("Depends", l)
	}
	holdReach(t, f, "shape", "sex #1 army #1 years 50 medal - ")
	// Only questions that are reached have values.
	l, fault := Reach(f, "z")
	if reached, _ := Reached(f, l); fault != api.OK || len(l) == 0 || !slices.Contains(reached, "z") {
		t.Error("Reach", wordsOf(l), fault)
	}
	holdReach(t, f, "e", "sex #1 army #2 ")
	for name, want := range map[string]api.Fault{"rank": api.ErrNone, "r": api.ErrNone, "nobody": api.ErrName, "option": api.ErrName, "": api.ErrName} {
		if l, fault := Reach(f, name); l != nil || fault != want {
			t.Error("Reach", name, l, fault)
		}
	}
	// What is not needed can have Missing, or a reason; all that is told then is permitted.
	f = pagesOf(t, "page p\n  question a choice two reasons refused\n  question b text 2 3\n    if not asked(a) or not answered(a) and reason(a) = 0\n  question c number 0 9\n    if reason(a) = 2\n  question d choice two\n    if reason(a) = 1\n  question e choice two\n    if answered(b)\n")
	holdReach(t, f, "b", "a - ")
	holdReach(t, f, "c", "a refused ")
	holdReach(t, f, "e", "a - b 'xx' ")
	if _, fault := Reach(f, "d"); fault != api.ErrNone {
		t.Error("Reach by a reason that cannot be given", fault)
	}
}

func TestStuckQuestions(t *testing.T) {
	for _, x := range []struct{ lines, want string }{
		{"", ""},
		{"page p\n  question a choice two need\n    only false\n", "a"},
		{"page p\n  question a choice two need\n    if false\n    only false\n", ""},
		{"page p\n  question a choice two\n    only false\n", ""},
		{"page p\n  question a choice two need reasons dontknow\n    only false\n", ""},
		{"page p\n  question a choice two need\n  question b choice two need\n    only a = #1 and option = #2\n  question c choice two need\n    if b = #2\n    only a = #2\n  question d choice two need\n    if b = #2\n    only a = #1\n", "b c"},
		{"page p\n  question n number 0.5 0.7 need\n  question m number 0.5 0.7\n  question o number 0.5 0.7 places 1 need\n  question q number 0.5 0.7 need reasons dontknow\n  question s choices mix 4 5 need\n  question u choices mix 3 3 need\n", "n s u"},
		{"page p\n  question a choice two need\n  question s choices mix 2 3 need\n    only a = #1 or option <> #5\n", "s"},
		{"end e\npage p\n  question a choice two need\n    only false\n", ""},
	} {
		if l, fault := Stuck(pagesOf(t, x.lines)); !slices.Equal(l, strings.Fields(x.want)) || fault != api.OK {
			t.Error("Stuck", x.lines, l, fault)
		}
	}
}

func TestConstantConditions(t *testing.T) {
	for _, x := range []struct{ lines, always, never string }{
		{"", "", ""},
		{"page p\n  if true\npage q\n  if false\npage r\n", "p", "q"},
		// Nothing is told where no answers come.
		{"page p\n  if false\n  question a choice two\n    if true\n", "", "p"},
		{"end e\npage p\n  if true\n", "", ""},
		{"block b\n  page p\n    question a choice two need\n  end e\n    if a = #1\n  page q\n    if a = #2\n  page r\n    if a = #1\nend z\n  if asked(a)\npage y\n  if true\n", "q z", "r"},
		// Just what is possible counts, not what questions would accept without their Only.
		{"page p\n  question a choice two need\n    only option = #1\n  question b choice two\n    if a = #1\n  question c choice two\n    if a <> #1\n  question d choice two\n    if b = #1\n", "b", "c"},
		{"page p\n  question a choice two\n    only option = #1\n  question b choice two\n    if a = #1\n", "", ""},
		{"page p\n  question n number 1 9 need\n  question m number 1 9\n    if n > 0\n  question o number 1 9\n    if n >= 9.5\n  question q number 1 9\n    if n > 8.5\n", "m", "o"},
		{"page p\n  question w text 0 5 need\n  question v text 0 5\n  compute k = answered(w)\n  compute l = answered(v)\n    if not k\n  compute m = k\n    if k\n", "m", "l"},
	} {
		l, fault := Constant(pagesOf(t, x.lines))
		var always, never []string
		for _, fact := range l {
			if fact.Is {
				always = append(always, fact.Name)
			} else {
				never = append(never, fact.Name)
			}
		}
		if !slices.Equal(always, strings.Fields(x.always)) || !slices.Equal(never, strings.Fields(x.never)) || fault != api.OK {
			t.Error("Constant", x.lines, l, fault)
		}
	}
	// In the order of items.
	f := pagesOf(t, "page z\n  if true\npage y\n  if false\n  question x choice two\n    if true\npage a\n  if true\n")
	if l, _ := Constant(f); !slices.Equal(l, []api.Fact{{Name: "z", Is: true}, {Name: "y"}, {Name: "a", Is: true}}) {
		t.Error("Constant", l)
	}
	if l, _ := Dead(f); !slices.Equal(l, []string{"y", "x"}) {
		t.Error("Dead", l)
	}
}

// holdCover holds that Cover returns possible answers to all that they reach, and returns what they cover.
func holdCover(t *testing.T, f api.Form) (int, []string) {
	t.Helper()
	lists, fault := Cover(f)
	if fault != api.OK {
		t.Error("Cover", fault)
	}
	covered := map[string]bool{}
	for _, l := range lists {
		reached, _ := Reached(f, l)
		var asked []string
		for _, name := range reached {
			covered[name] = true
			if itemOf(f.Items, name).Kind == api.ItemQuestion {
				asked = append(asked, name)
			}
		}
		if possible, fault := Possible(f, l); !possible || fault != api.OK || !slices.Equal(namesOf(l), asked) {
			t.Error("Cover returns answers that are not possible, or not all", wordsOf(l))
		}
		for _, g := range l {
			for _, code := range codesOf(g.Value) {
				covered[g.Key.Name+"#"+strconv.Itoa(code)] = true
			}
		}
	}
	var names []string
	for name := range covered {
		names = append(names, name)
	}
	slices.Sort(names)
	if len(lists) > len(names) {
		t.Error("Cover returns too many lists", len(lists))
	}
	return len(lists), names
}

func TestCoverAll(t *testing.T) {
	for _, x := range []struct{ lines, want string }{
		{"", ""},
		{"page p\n", "p"},
		{"end e\npage p\n", "e"},
		{"page p\n  question n number 0.5 0.7 need\n", "p n"},
		{armyLines, "p sex sex#1 sex#2 army army#1 army#2"},
		// Options that are never offered, or only with others that are not.
		{"page p\n  question a choice two need\n  question b choice mix need\n    only a = #1 and option = #5 or option = #3\n", "p a a#1 a#2 b b#3 b#5"},
		{"page p\n  question a choice two need\n  question s choices mix 2 2\n    only a = #1 or option = #5\n", "p a a#1 a#2 s s#5 s#7"},
		{"page p\n  question a choice two need\n  question s choices mix 2 2 need\n    only a = #1 and option = #5\n  question b choice two\n    if asked(s) and not answered(s)\n", "p a a#1 a#2 s b b#1 b#2"},
		{"page p\n  question s choices mix 0 3\n  question b choice two\n    if s has #3 and size(s) = 2\n  question c choice two\n    if size(s) = 2\nend e\n  if size(s) = 0\npage q\n", "p s s#3 s#5 s#7 c c#1 c#2 e q"},
		{"page p\n  question a choice two need\n    if false\n  question s choices mix 0 3\n    if asked(a)\n", "p"},
	} {
		_, got := holdCover(t, pagesOf(t, x.lines))
		want := strings.Fields(x.want)
		slices.Sort(want)
		if !slices.Equal(got, want) {
			t.Error("Cover", x.lines, got)
		}
	}
	// Answers that are needed anyway cover what they can.
	if n, _ := holdCover(t, pagesOf(t, "page p\n  question a choice two\n  question b choice mix\n  question c choices mix 0 3\n")); n > 4 {
		t.Error("Cover has more lists than it needs", n)
	}
}

// TestLargeForms holds that proofs of the largest forms come to an end soon.
func TestLargeForms(t *testing.T) {
	lines := ""
	for i := range 11 {
		lines += "  question q" + strconv.Itoa(i) + " choice two need\n"
	}
	condition := "q0 = #1"
	for i := 1; i < 11; i++ {
		condition += []string{" and ", " or "}[i%2] + "q" + strconv.Itoa(i) + " = #" + strconv.Itoa(1+i%2)
	}
	n := 0
	for i := range 40 {
		lines += "  question s" + strconv.Itoa(i) + " choice two need\n    if " + condition + "\n  question w" + strconv.Itoa(i) + " text 0 5 need\n    if s" + strconv.Itoa(i) + " = #1\n"
		n += 2
	}
	for i := range 280 - n - 11 {
		lines += "  question c" + strconv.Itoa(i) + " choice two\n    only " + condition + "\n"
	}
	f := pagesOf(t, "page p\n"+lines)
	if l, fault := Dead(f); len(l) != 0 || fault != api.OK {
		t.Error("Dead", l, fault)
	}
	if _, names := holdCover(t, f); len(names) < 500 {
		t.Error("Cover", len(names))
	}
	ten := "form f 1\nlanguages en\nlist ten\n"
	for i := range 10 {
		ten += "  option " + strconv.Itoa(10-i) + "\n"
	}
	ten += "page p\n  question a choices ten 0 10 need\n"
	for i := range 100 {
		ten += "  question s" + strconv.Itoa(i) + " choices ten 1 10 need\n    if a has #3\n    only a has #1 and option in {#1,#2}\n"
	}
	f = formOf(t, ten)
	if l, fault := Stuck(f); len(l) != 100 || fault != api.OK {
		t.Error("Stuck", len(l), fault)
	}
	if _, names := holdCover(t, f); len(names) != 1+11+3*100 {
		t.Error("Cover", len(names))
	}
}
