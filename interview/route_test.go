package interview

import (
	"slices"
	"strconv"
	"strings"
	"testing"

	"canvass/api"
	"canvass/quest"
	"canvass/value"
)

// course is answers, and what they make of a route.
type course struct{ given, asked, pages, rows, end string }

func holdCourses(t *testing.T, f api.Form, l []course) {
	t.Helper()
	for _, x := range l {
		r := routeWith(t, f, x.given)
		if got := (course{x.given, routeText(r), keysText(r.Pages), rowsText(r.Rows), r.End}); got != x {
			t.Errorf("RouteOf\ngot  %q\nwant %q", got, x)
		}
	}
}

// TestQuestions holds what a question has: Value, Offered, Open and Soft (I2).
func TestQuestions(t *testing.T) {
	holdCourses(t, listed(t, `page p
  question n number 1 9 places 1 need reasons refused
  question w text 2 3
  question one choice mix
  question some choices mix 1 2 need
  question when day @2000-01-01 @2000-01-09
`), []course{
		{"", "p: n=-!12 w=- one=-/7,3,5,9 some=-!12/7,3,5,9 when=-", "p", "", ""},
		{"n=1.5 w='ab' one=#5 some={#5,#7} when=@2000-01-02", "p: n=1.5 w='ab' one=#5/7,3,5,9 some={#5,#7}/7,3,5,9 when=@2000-01-02", "p", "", ""},
		// What Accept refuses is Missing.
		{"n=1.55 w='abcd' one=#1 some={#3,#7} when=@2000-01-10", "p: n=-!12 w=- one=-/7,3,5,9 some=-!12/7,3,5,9 when=-", "p", "", ""},
		{"n='x' w=1 one={#7} some=#7 when=3", "p: n=-!12 w=- one=-/7,3,5,9 some=-!12/7,3,5,9 when=-", "p", "", ""},
		{"n=refused w=refused one=noanswer", "p: n=refused w=- one=-/7,3,5,9 some=-!12/7,3,5,9 when=-", "p", "", ""},
		{"n=dontknow some={}", "p: n=-!12 w=- one=-/7,3,5,9 some=-!12/7,3,5,9 when=-", "p", "", ""},
		{"n=- w=-", "p: n=-!12 w=- one=-/7,3,5,9 some=-!12/7,3,5,9 when=-", "p", "", ""},
	})
}

// TestChecks holds when checks are met, and what follows (I2).
func TestChecks(t *testing.T) {
	holdCourses(t, listed(t, `page p
  question n number 0 9 reasons refused
    soft n > 1
    check n > 2
    soft not answered(n) or n > 3
    check n <> 5
    soft n < 8
  question m number 0 9 need reasons refused
    check m > n
    soft m = 7
  question k number 0 9
    check not answered(k) or k = n
    soft asked(k)
  question free number 0 9
`), []course{
		// Checks are asked also if the value is missing; ErrMissing goes ahead of ErrCheck.
		{"", "p: n=-!13~0,4 m=-!12~1 k=- free=-", "p", "", ""},
		{"n=refused m=refused", "p: n=refused!13~0,4 m=refused!13~1 k=- free=-", "p", "", ""},
		{"n=2 m=7", "p: n=2!13~2 m=7 k=- free=-", "p", "", ""},
		{"n=3 m=3", "p: n=3~2 m=3!13~1 k=- free=-", "p", "", ""},
		{"n=5 m=7", "p: n=5!13 m=7 k=- free=-", "p", "", ""},
		{"n=9 m=7 k=8", "p: n=9~4 m=7!13 k=8!13 free=-", "p", "", ""},
		{"n=6 m=7 k=6", "p: n=6 m=7 k=6 free=-", "p", "", ""},
	})
}

// TestConditions holds that conditions see the scene as it is then, and nothing else (I2).
func TestConditions(t *testing.T) {
	holdCourses(t, listed(t, `page first
  question q choice two need
  question hidden number 0 9
    if q = #1
page second
  if hidden > 3
  question r number 0 9
compute c = hidden + r
page third
  if answered(c)
  question s number 0 9
    if asked(r) and reason(q) = 0
compute cb = not hidden > 3
  if asked(r) or q = #2
page fourth
  if cb
`), []course{
		{"", "first: q=-!12/1,2 : c=-", "first", "", ""},
		{"q=#1", "first: q=#1/1,2 hidden=- : c=-", "first", "", ""},
		{"q=#1 hidden=3", "first: q=#1/1,2 hidden=3 : c=-", "first", "", ""},
		{"q=#1 hidden=4", "first: q=#1/1,2 hidden=4 second: r=- : c=- cb=false", "first second", "", ""},
		{"q=#1 hidden=4 r=1", "first: q=#1/1,2 hidden=4 second: r=1 : c=5 third: s=- : cb=false", "first second third", "", ""},
		// What is not on the route is not seen.
		{"q=#2 hidden=4 r=1", "first: q=#2/1,2 : c=- cb=true", "first fourth", "", ""},
		{"q=#3 hidden=4 r=1", "first: q=-!12/1,2 : c=-", "first", "", ""},
	})
}

// TestPages holds on which page what is asked stands, with blocks and loops within and around pages (I2).
func TestPages(t *testing.T) {
	holdCourses(t, listed(t, `page empty
loop a count 2
  page p
    question q number 0 9
    block b
      question r number 0 9
      loop l count row(a)
        question s number 0 9
        compute c = row(l) * 10 + row(a)
    compute ca = sum(l: c)
  compute cb = ca + 1
page last
  question z number 0 9
`), []course{{"q.1=1 r.2=2 s.2.2=3 z=4 s.1.2=5",
		"p.1: q.1=1 r.1=- s.1.1=- c.1.1=11 ca.1=11 : cb.1=12 p.2: q.2=- r.2=2 s.2.1=- c.2.1=12 s.2.2=3 c.2.2=22 ca.2=34 : cb.2=35 last: z=4",
		"empty p.1 p.2 last", "a=1,2 l.1=1 l.2=1,2", ""}})
}

// TestCount holds the rows of loops with Count (I2).
func TestCount(t *testing.T) {
	f := listed(t, `page p
  question q number -9 99 places 4 reasons refused
loop a count q
  page r
    question x number 0 9
loop b count 2
  if answered(q)
  loop d count row(b) - 1
    if q <> 3
    page s
loop e count q / 0
`)
	twenty := "1,2,3,4,5,6,7,8,9,10,11,12,13,14,15,16,17,18,19,20"
	for _, x := range []struct{ q, a, inner string }{
		{"", "", ""}, {"refused", "", ""}, {"0", "", "b=1,2 d.1= d.2=1 "}, {"-1", "", "b=1,2 d.1= d.2=1 "}, {"-0.5", "", "b=1,2 d.1= d.2=1 "}, {"0.9999", "", "b=1,2 d.1= d.2=1 "}, {"1", "1", "b=1,2 d.1= d.2=1 "},
		{"1.9999", "1", "b=1,2 d.1= d.2=1 "}, {"2", "1,2", "b=1,2 d.1= d.2=1 "}, {"3", "1,2,3", "b=1,2 "}, {"20", twenty, "b=1,2 d.1= d.2=1 "}, {"20.5", twenty, "b=1,2 d.1= d.2=1 "}, {"21", twenty, "b=1,2 d.1= d.2=1 "}, {"99", twenty, "b=1,2 d.1= d.2=1 "},
	} {
		text := ""
		if x.q != "" {
			text = "q=" + x.q
		}
		r := routeWith(t, f, text)
		if want := "a=" + x.a + " " + x.inner + "e="; rowsText(r.Rows) != want {
			t.Error("Rows of", x.q, rowsText(r.Rows), "not", want)
		}
		pages := 1 + strings.Count(x.a, ",") + strings.Count(x.inner, "d.2")
		if x.a != "" {
			pages++
		}
		if len(r.Pages) != pages {
			t.Error("Pages of", x.q, keysText(r.Pages))
		}
	}
}

// TestOver holds the rows of loops with Over (I2).
func TestOver(t *testing.T) {
	holdCourses(t, listed(t, `page p
  question q choices mix 0 4 reasons refused
  question h choices mix 0 4
    if not q = {#9}
loop a over q
  page r
    question k choices mix 0 4
  loop b over k
    page s
      question x number 0 9
  loop c over h
loop d over h
`), []course{
		{"", "p: q=-/7,3,5,9 h=-/7,3,5,9", "p", "a= d=", ""},
		{"q=refused", "p: q=refused/7,3,5,9 h=-/7,3,5,9", "p", "a= d=", ""},
		{"q={}", "p: q={}/7,3,5,9 h=-/7,3,5,9", "p", "a= d=", ""},
		// Codes are increasing, in whatever order they are offered.
		{"q={#5,#7} k.7={#3} k.5={#9} h={#5,#9} x.7.3=1 x.5.9=2 x.5.3=4",
			"p: q={#5,#7}/7,3,5,9 h={#5,#9}/7,3,5,9 r.5: k.5={#9}/7,3,5,9 s.5.9: x.5.9=2 r.7: k.7={#3}/7,3,5,9 s.7.3: x.7.3=1",
			"p r.5 s.5.9 r.7 s.7.3", "a=5,7 b.5=9 b.7=3 c.5=5,9 c.7=5,9 d=5,9", ""},
		// A question that is not asked has no value.
		{"q={#9} h={#5} k.9={}", "p: q={#9}/7,3,5,9 r.9: k.9={}/7,3,5,9", "p r.9", "a=9 b.9= c.9= d=", ""},
	})
}

// TestRowsAreSorted holds the order of Rows (V13): by the names of loops, not by the order of the form.
func TestRowsAreSorted(t *testing.T) {
	holdCourses(t, listed(t, "loop z count 2\n  loop m count 11\n    loop a count row(z) + row(m) - 12\nloop b count 0\n"), []course{{"", "", "",
		"a.1.1= a.1.2= a.1.3= a.1.4= a.1.5= a.1.6= a.1.7= a.1.8= a.1.9= a.1.10= a.1.11= a.2.1= a.2.2= a.2.3= a.2.4= a.2.5= a.2.6= a.2.7= a.2.8= a.2.9= a.2.10= a.2.11=1 b= m.1=1,2,3,4,5,6,7,8,9,10,11 m.2=1,2,3,4,5,6,7,8,9,10,11 z=1,2", ""}})
}

// TestEnds holds that nothing is gone along behind an end (I2).
func TestEnds(t *testing.T) {
	holdCourses(t, listed(t, `page p
  question q number 0 9
end none
  if q = 1
loop a count 3
  page r
    question x number 0 9
  block b
    end stop
      if x = 1
    compute c = 1
  page s
end two
  if q = 2
page last
end over
page never
`), []course{
		{"q=1 x.1=1", "p: q=1", "p", "", "none"},
		{"q=2 x.1=1", "p: q=2 r.1: x.1=1", "p r.1", "a=1,2,3", "stop"},
		{"q=2 x.2=1", "p: q=2 r.1: x.1=- : c.1=1 r.2: x.2=1", "p r.1 s.1 r.2", "a=1,2,3", "stop"},
		{"q=2 x.4=1", "p: q=2 r.1: x.1=- : c.1=1 r.2: x.2=- : c.2=1 r.3: x.3=- : c.3=1", "p r.1 s.1 r.2 s.2 r.3 s.3", "a=1,2,3", "two"},
		{"", "p: q=- r.1: x.1=- : c.1=1 r.2: x.2=- : c.2=1 r.3: x.3=- : c.3=1", "p r.1 s.1 r.2 s.2 r.3 s.3 last", "a=1,2,3", "over"},
	})
}

// TestComputed holds computed values: their kinds, and that a Bool that is missing is false (I2).
func TestComputed(t *testing.T) {
	holdCourses(t, listed(t, `page p
  question n number 0 9 reasons dontknow
  question k choices mix 0 4
  question w text 0 9
  compute ca = n / 2
  compute cb = if(answered(n), n > 3, ca > 1)
  compute cc = k
  compute cd = lower(w)
  compute ce = else(ca, 7)
    if cb
  compute cf = asked(ce)
  compute cg = later(@2000-01-01, n)
`), []course{
		{"", "p: n=- k=-/7,3,5,9 w=- ca=- cb=false cc=- cd=- cf=false cg=-", "p", "", ""},
		{"n=dontknow k={} w=''", "p: n=dontknow k={}/7,3,5,9 w='' ca=- cb=false cc={} cd='' cf=false cg=-", "p", "", ""},
		{"n=9 k={#5,#7} w='aB'", "p: n=9 k={#5,#7}/7,3,5,9 w='aB' ca=4.5 cb=true cc={#5,#7} cd='ab' ce=4.5 cf=true cg=@2000-01-10", "p", "", ""},
	})
}

// TestOffered holds that Only is asked in the scene as it is then, for each row, and that what is not offered is not accepted (I2).
func TestOffered(t *testing.T) {
	holdCourses(t, listed(t, `page p
  question k choices mix 0 4
  question q choice mix need
    only option in k
loop a count 2
  page r
    question one choice mix
      only option in k and (row(a) = 1 or option <> q)
loop b count 1
  page s
    question some choices mix 0 4
      only asked(option) and answered(option) and reason(option) = 0 and code(option) > 4 and any(a: one = option)
`), []course{
		// With Need, and without an offered option, it stays open.
		{"", "p: k=-/7,3,5,9 q=-!12 r.1: one.1=- r.2: one.2=- s.1: some.1=-", "p r.1 r.2 s.1", "a=1,2 b=1", ""},
		{"k={#3} q=#5 one.1=#3", "p: k={#3}/7,3,5,9 q=-!12/3 r.1: one.1=#3/3 r.2: one.2=- s.1: some.1=-", "p r.1 r.2 s.1", "a=1,2 b=1", ""},
		{"k={#5,#7,#9} q=#7 one.1=#7 one.2=#7 some.1={#7}", "p: k={#5,#7,#9}/7,3,5,9 q=#7/7,5,9 r.1: one.1=#7/7,5,9 r.2: one.2=-/5,9 s.1: some.1={#7}/7", "p r.1 r.2 s.1", "a=1,2 b=1", ""},
		{"k={#5,#7,#9} q=#7 one.1=#9 one.2=#5 some.1={#7}", "p: k={#5,#7,#9}/7,3,5,9 q=#7/7,5,9 r.1: one.1=#9/7,5,9 r.2: one.2=#5/5,9 s.1: some.1=-/5,9", "p r.1 r.2 s.1", "a=1,2 b=1", ""},
	})
}

// TestShuffled holds the orders by chance: of blocks and of options, for each row (I2).
func TestShuffled(t *testing.T) {
	f := listed(t, `block b shuffle
  page p
    question x choice mix shuffle
  page q
  page r
    question y number 0 9
  page s
loop l count 3
  block d shuffle
    page u
    page v
    page w
      question z choices mix 0 4 shuffle
        only option <> #5
`)
	different := map[string]bool{}
	for n := range 20 {
		seed := "seed" + strconv.Itoa(n)
		r, fault := RouteOf(f, seed, nil)
		if fault != api.OK {
			t.Fatal("RouteOf", fault)
		}
		var want []string
		order, _ := value.Shuffle(seed+"|b|", 4)
		for _, n := range order {
			want = append(want, []string{"p", "q", "r", "s"}[n])
		}
		for row := 1; row <= 3; row++ {
			order, _ := value.Shuffle(seed+"|d|"+strconv.Itoa(row), 3)
			for _, n := range order {
				want = append(want, []string{"u.", "v.", "w."}[n]+strconv.Itoa(row))
			}
		}
		if got := keysText(r.Pages); got != strings.Join(want, " ") {
			t.Error("Pages", got, "not", want)
		}
		different[keysText(r.Pages)] = true
		scene, _ := quest.Blank(f)
		for _, a := range r.Asked {
			if a.Key.Name == "y" {
				continue
			}
			codes, fault := quest.Options(f, seed, a.Key.Name, a.Key.Row, scene)
			if fault != api.OK || !slices.Equal(codes, a.Offered) {
				t.Error("Offered", a, codes, fault)
			}
			different[keyText(a.Key)+numbersText(a.Offered)] = true
		}
	}
	if len(different) < 30 {
		t.Error("the orders are few", len(different))
	}
}

// TestData holds which answers are data, and in which order (I2, I3).
func TestData(t *testing.T) {
	f := listed(t, `page first
  question c choices mix 0 4
block mixed shuffle
  page z
    question e number 0 9
  page y
    question d number 0 9 reasons refused
  page x
    question b choice two
loop a over c
  page w
    question q number 0 9
    compute v = q
`)
	for _, seed := range []string{"1", "2", "3", "4", "5"} {
		for _, x := range []struct{ given, data string }{
			{"", ""}, {"q.5=1 b=#2 d=refused e=0 q.9=2 c={#5,#9}", "c={#5,#9} e=0 d=refused b=#2 q.5=1 q.9=2"}, {"q.9=2 q.5=1 b=#5 d=- c={#9}", "c={#9} q.9=2"}, {"q.5=1 b=#2", "b=#2"}, {"c={} e=10 d=dontknow", "c={}"}, {"e=9 d=9", "e=9 d=9"},
		} {
			l, fault := Data(f, seed, answers(t, x.given))
			if fault != api.OK || answersText(l) != x.data {
				t.Error("Data of", x.given, answersText(l), fault)
			}
			// Data of data are data.
			if again, _ := Data(f, seed, l); answersText(again) != x.data {
				t.Error("Data of data", answersText(again))
			}
		}
	}
}

// TestScene holds the scene behind the route (I2).
func TestScene(t *testing.T) {
	f := listed(t, `page p
  question z number 0 9 reasons refused
  question b number 0 9
    if z > 1
loop l count 11
  page q
    question m number 0 9
  compute a = m + row(l)
    if row(l) > 9
`)
	s, fault := SceneOf(f, "s", answers(t, "m.10=3 z=refused b=7 m.11=10 m.12=1"))
	if fault != api.OK || value.CheckScene(s) != api.OK {
		t.Fatal("SceneOf", fault, value.CheckScene(s))
	}
	blank, _ := quest.Blank(f)
	sameCell := func(a, b api.Cell) bool {
		return a.Name == b.Name && a.Kind == b.Kind && slices.Equal(a.Loops, b.Loops)
	}
	sameNest := func(a, b api.Nest) bool { return a.Name == b.Name && slices.Equal(a.Loops, b.Loops) }
	if !slices.EqualFunc(s.Cells, blank.Cells, sameCell) || !slices.EqualFunc(s.Loops, blank.Loops, sameNest) {
		t.Error("cells and loops", s.Cells, s.Loops)
	}
	var words []string
	for _, b := range s.Bounds {
		words = append(words, keyText(api.Key{Name: b.Name, Row: b.Row})+"="+valueText(b.Value))
		if !b.Asked {
			t.Error("not asked", b)
		}
	}
	if got := strings.Join(words, " "); got != "a.10=13 a.11=- m.1=- m.2=- m.3=- m.4=- m.5=- m.6=- m.7=- m.8=- m.9=- m.10=3 m.11=- z=refused" {
		t.Error("Bounds", got)
	}
	if got := rowsText(s.Rows); got != "l=1,2,3,4,5,6,7,8,9,10,11" {
		t.Error("Rows", got)
	}
}

// TestLimits holds the limits of a route: ErrLarge with one more (I2).
func TestLimits(t *testing.T) {
	// 20 rows of 10 rows of 15 elements, 2 of which are computed values; one more with an answer.
	var b strings.Builder
	b.WriteString("page p\n  question more number 0 9\nloop a count 20\n  loop b count 10\n    page q\n")
	for n := range 13 {
		b.WriteString("      question q" + strconv.Itoa(n) + " number 0 9\n")
	}
	b.WriteString("      compute c = 1\n      compute d = 1\n        if row(a) < 20 or row(b) < 10\nend stop\n  if more = 2\npage last\n  question x number 0 9\n    if more = 1 or more = 2\n")
	full := listed(t, b.String())
	if r := routeWith(t, full, ""); len(r.Asked) != api.MaxRoute || len(r.Pages) != 202 {
		t.Error("a full route", len(r.Asked), len(r.Pages))
	}
	// 1 + 20 + 400 * 49 Rows, 18 * 20 and 18 more; one more with an answer.
	b.Reset()
	b.WriteString("page p\n  question more number 0 9\nloop a count 20\n  loop b count 20\n")
	for n := range 49 {
		b.WriteString("    loop c" + strconv.Itoa(n) + " count 0\n")
	}
	for n := range 18 {
		b.WriteString("  loop d" + strconv.Itoa(n) + " count 0\n")
	}
	for n := range 19 {
		b.WriteString("loop e" + strconv.Itoa(n) + " count 0\n")
	}
	b.WriteString("end stop\n  if more = 2\nloop last count 1\n  if more = 1 or more = 2\n")
	wide := listed(t, b.String())
	if r := routeWith(t, wide, ""); len(r.Rows) != api.MaxBounds {
		t.Error("a route with all Rows", len(r.Rows))
	}
	for _, f := range []api.Form{full, wide} {
		one, two := answers(t, "more=1"), answers(t, "more=2")
		if r, fault := RouteOf(f, "s", one); fault != api.ErrLarge || !sameRoute(r, api.Route{}) {
			t.Error("RouteOf of too much", fault)
		}
		if l, fault := Data(f, "s", one); fault != api.ErrLarge || len(l) > 0 {
			t.Error("Data of too much", fault)
		}
		if s, fault := SceneOf(f, "s", one); fault != api.ErrLarge || len(s.Cells)+len(s.Loops) > 0 {
			t.Error("SceneOf of too much", fault)
		}
		// What is behind an end does not count; and wrong answers go ahead.
		if r, fault := RouteOf(f, "s", two); fault != api.OK || r.End != "stop" {
			t.Error("RouteOf with an end", fault)
		}
		if _, fault := RouteOf(f, "s", append(one, given("more", numberValue(1)))); fault != api.ErrTwice {
			t.Error("RouteOf of wrong answers and too much", fault)
		}
		holdLargeSteps(t, f)
	}
	each(t, listed(t, b.String()+"page z\n"), " ", api.ErrRange)
}

// holdLargeSteps holds that Give and Change of an answer that makes the route too large change nothing (I5).
func holdLargeSteps(t *testing.T, f api.Form) {
	t.Helper()
	i, fault := New(f, "s", 0)
	if fault != api.OK {
		t.Fatal("New", fault)
	}
	if fault := i.Give(answers(t, "more=1"), 0); fault != api.ErrLarge {
		t.Error("Give of too much", fault)
	}
	if fault := i.Change(given("more", numberValue(1)), 0); fault != api.ErrLarge {
		t.Error("Change of too much", fault)
	}
	if len(i.Data())+len(i.Beside())+len(i.Journal()) > 0 || !sameRoute(i.Route(), routeWith(t, f, "")) {
		t.Error("an error changes something")
	}
	if fault := i.Give(answers(t, "more=2"), 0); fault != api.OK || i.Route().End != "stop" {
		t.Error("Give behind an error", fault)
	}
}

// TestTooLargeFromTheStart holds that New and Replay say ErrLarge if the route is too large without answers (I4).
func TestTooLargeFromTheStart(t *testing.T) {
	f := listed(t, "page p\n  question less number 0 9\nend stop\n  if less = 1\nloop a count 20\n  loop b count 20\n    loop c count 8\n      compute x = 1\n")
	if _, fault := RouteOf(f, "s", nil); fault != api.ErrLarge {
		t.Error("RouteOf", fault)
	}
	if i, fault := New(f, "s", 0); fault != api.ErrLarge || i != nil {
		t.Error("New", fault)
	}
	if i, fault := New(f, "s", -1); fault != api.ErrRange || i != nil {
		t.Error("New at a wrong minute", fault)
	}
	if i, n, fault := Replay(f, "s", 0, []api.Step{{Kind: 9}, {Kind: 9}}); fault != api.ErrLarge || i != nil || n != 0 {
		t.Error("Replay", n, fault)
	}
	if r, fault := RouteOf(f, "s", answers(t, "less=1")); fault != api.OK || r.End != "stop" {
		t.Error("RouteOf with an end", fault)
	}
}
