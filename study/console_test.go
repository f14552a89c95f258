package study

import (
	"fmt"
	"strings"
	"testing"

	"canvass/api"
	"canvass/quest"
)

// consoleLines is the form of most scripts here.
const consoleLines = `form home 1
languages en fr
list sexes
  option 1 "Man" "Homme"
  option 2 "Woman" "Femme"
page p
  text "Welcome" "Bienvenue"
  question sex choice sexes need reasons refused
    text "You?" "Vous?"
  question kids number 0 9
    if sex = #2
    text "How many, {sex}?" "Combien?"
    check not answered(kids) or kids < 9
  question note text 0 60
loop row count kids
  page q
    question kid number 0 99 need
      text "Child {row(row)} of {kids}" "Enfant"
`

// play runs a script whose lines are commands with their replies, as `state 0 -> ok 0 0 0`, behind a form.
func play(t *testing.T, form, script string) {
	t.Helper()
	commands, want := form+"end\n", ""
	for _, line := range strings.Split(strings.Trim(script, "\n"), "\n") {
		command, answer, isPair := strings.Cut(line, " -> ")
		if !isPair {
			t.Fatal("no reply", line)
		}
		commands, want = commands+command+"\n", want+answer+"\n"
	}
	got := Run(commands)
	if got == want {
		return
	}
	replies := strings.Split(got, "\n")
	for n, line := range strings.Split(strings.Trim(script, "\n"), "\n") {
		command, answer, _ := strings.Cut(line, " -> ")
		if n >= len(replies) || replies[n] != answer {
			t.Errorf("line %d, %q: got %q, want %q", n, command, replies[min(n, len(replies)-1)], answer)
		}
	}
}

// TestRunForm holds what T11 says of the form and of lines.
func TestRunForm(t *testing.T) {
	long := consoleLines + "end\n"
	for _, x := range []struct{ what, script, want string }{
		{"nothing", "", "error 10\n"},
		{"a form without its end", consoleLines, "error 10\n"},
		{"an end that is none", consoleLines + "end bye\nEnd\n end\nend \n", "error 10\n"},
		{"no lines ahead of the end", "end\nstate 0\n", "error 10\n"},
		{"no form", "x\nend\nstate 0\n", "error 10\n"},
		{"a form that quest.Check refuses", "form home 0\nlanguages en\nend\nstate 0\n", "error 1\n"},
		{"a form with a wrong name", "form and 1\nlanguages en\nend\nstate 0\n", "error 5\n"},
		{"a long form", strings.Repeat("x", api.MaxForm) + "\nend\n", "error 2\n"},
		{"a form of the greatest length is read", strings.Repeat("x", api.MaxForm-1) + "\nend\n", "error 10\n"},
		{"no commands", consoleLines + "end\n", ""},
		{"no commands, and no end of the last line", consoleLines + "end", ""},
		{"a command without the end of its line", consoleLines + "end\nstate 0\nstate 1", "ok 0 0 0\nok 0 0 0\n"},
		{"empty lines", consoleLines + "end\n\nstate 0\n\n", "error 10\nok 0 0 0\nerror 10\n"},
		{"another end", consoleLines + "end\nend\nstate 0\n", "error 10\nok 0 0 0\n"},
		{"an item that is an end", consoleLines + "end bye\nend\nstate 0\n", "ok 0 0 0\n"},
		{"400 lines", long + strings.Repeat("\n", 400), strings.Repeat("error 10\n", 400)},
		{"400 lines, the last one without its end", long + strings.Repeat("state 3\n", 399) + "state 3", strings.Repeat("ok 0 0 0\n", 400)},
		{"401 lines", long + strings.Repeat("\n", 401), "error 2\n"},
		{"401 lines, the last one without its end", long + strings.Repeat("\n", 400) + "x", "error 2\n"},
		{"401 lines behind a wrong form", "form home 0\nlanguages en\nend\n" + strings.Repeat("\n", 401), "error 1\n"},
		{"returns are bytes of a line", strings.ReplaceAll(consoleLines, "\n", "\r\n") + "end\n", "error 10\n"},
	} {
		is(t, x.what, Run(x.script), x.want)
	}
}

// TestRun holds T12: a study from its quotas to its tables.
func TestRun(t *testing.T) {
	play(t, consoleLines, `
quota men 2 sex = #1 -> ok
quota women 1 sex = #2 -> ok
state 0 -> ok 0 0 0 0 0
case 1 1 a -> ok
case 2 2 b -> ok
case 3 1 c -> ok
case 3 1 d -> error 6
permit men 1 -> ok 1
permit men 1 -> ok 2
permit men 2 -> error 15
permit women 2 -> ok 3
state 0 -> ok 3 0 0 0 0
state 1 -> ok 0 0 0 0 0
sync 0 1 -> ok 6
sync 0 2 -> ok 6
sync 0 1 -> ok 6
state 2 -> ok 3 0 0 0 0
open 1 1 -> ok sex
answer 1 1 sex #1 -> ok
open 1 1 -> ok
answer 1 1 note 'it''s  a note' -> ok
show 1 1 -> ok sex #1 note 'it''s  a note'
show 0 1 -> ok
complete 1 1 -> ok
complete 1 1 -> error 21
answer 1 2 sex #1 -> error 20
answer 2 2 sex #2 -> ok
answer 2 2 kid.1 5 -> error 11
answer 2 2 kids 2 -> ok
open 2 2 -> ok kid.1 kid.2
complete 2 2 -> error 12
answer 2 2 kid.2 7 -> ok
answer 2 2 kid.1 5 -> ok
show 2 2 -> ok sex #2 kids 2 kid.1 5 kid.2 7
complete 2 2 -> ok
state 2 -> ok 3 1 0 0 1
data -> ok 0 0
sync 1 0 -> ok 9
sync 2 0 -> ok 14
state 0 -> ok 3 2 0 1 1
show 0 2 -> ok sex #2 kids 2 kid.1 5 kid.2 7
data -> ok 2 88
count sex = #1 -> ok 1
count true -> ok 2
count any(row: kid > 6) -> ok 1
count kids = 2 and note = 'x' -> ok 0
table sex sex -> ok 1 0 0 1
say 2 2 kids 0 -> ok How many, Woman?
say 2 2 kids 1 -> ok Combien?
say 2 2 kid.2 0 -> ok Child 2 of 2
say 2 1 kids 0 -> ok How many, ?
off 2 -> ok
off 2 -> error 11
assign 3 2 -> ok
return 1 2 -> ok
return 1 2 -> error 11
`)
	// The text of the data set.
	text := "case 1 1/1 'a'\nsex #1\nnote 'it''s  a note'\ncase 2 1/1 'b'\nsex #2\nkids 2\nkid.1 5\nkid.2 7\n"
	is(t, "the text", len(text), 88)
}

// TestRunRefused holds that events of a device that was written off are told as refused.
func TestRunRefused(t *testing.T) {
	play(t, consoleLines, `
quota men 1 sex = #1 -> ok
case 1 1 a -> ok
case 2 2 b -> ok
permit men 1 -> ok 1
sync 0 1 -> ok 3
answer 1 1 sex #1 -> ok
complete 1 1 -> ok
state 1 -> ok 2 1 0 1
off 1 -> ok
permit men 2 -> ok 2
sync 1 0 -> ok 7
state 0 -> ok 2 0 2 0
state 1 -> ok 2 1 0 1
sync 0 1 -> ok 7
state 1 -> ok 2 0 2 0
sync 1 3 -> ok 7
sync 3 2 -> ok 7
answer 2 2 sex #1 -> ok
complete 2 2 -> ok
show 2 2 -> ok sex #1
sync 2 0 -> ok 9
data -> ok 1 22
state 0 -> ok 2 1 2 1
sync 0 0 -> ok 9
answer 0 1 sex #2 -> error 20
assign 1 60 -> ok
assign 1 61 -> error 1
case 3 60 a -> ok
case 3 0 a -> error 1
off 60 -> ok
off 61 -> error 1
`)
}

// TestRunErrors holds which error of a command comes first (T12).
func TestRunErrors(t *testing.T) {
	play(t, consoleLines, `
quota men 2 sex = #1 -> ok
quota men 2 sex = #1 -> error 6
quota Men 2 sex = #1 -> error 5
quota or 2 sex = #1 -> error 5
quota a 2001 sex = #1 -> error 1
quota a 2000 sex = #1 -> ok
quota a.b 2 kid = 1 -> error 5
quota b 2001 kid = 1 -> error 5
quota b 2001 kids -> error 8
quota b 2001 kids = #1 -> error 8
quota b 2001 ( -> error 10
quota b 999999999 sex = #1 -> error 1
quota b 0 sex = #1  -> ok
no command -> error 10
state x -> error 10
quota c 1 true -> ok
state 4 -> error 1
quota d 1 true -> error 11
quota d 1 ( -> error 11
quota men 2001 kid -> error 11
quota d 1 -> error 10
case 1 1 a -> ok
case 2001 1 a -> error 1
case 0 1 a -> error 1
case 2 0 aaaaaaaaaaaaaaaaaaaaaaaaaaaaaaaaaaaaaaaaa -> error 1
case 2 61 a -> error 1
case 2 1 aaaaaaaaaaaaaaaaaaaaaaaaaaaaaaaaaaaaaaaaa -> error 2
case 1 1 é -> error 1
case 1 1 b -> error 6
assign 2 99 -> error 9
assign 1 99 -> error 1
off 0 -> error 1
permit nobody 99 -> error 5
permit b 99 -> error 1
permit b 1 -> error 15
permit men 0 -> error 1
permit men 60 -> ok 1
answer 4 1 sex #1 -> error 1
answer 999999999 1 sex #1 -> error 1
answer 3 1 sex #1 -> error 9
sync 0 1 -> ok 2
sync 0 3 -> ok 2
sync 4 0 -> error 1
sync 0 4 -> error 1
sync 9 9 -> error 1
answer 3 1 sex #1 -> error 20
answer 1 1 nobody #1 -> error 5
answer 1 1 p #1 -> error 5
answer 1 1 sex.1 #1 -> error 3
answer 1 1 kid #1 -> error 3
answer 1 1 kid.0 1 -> error 1
answer 1 1 kid.999999999 1 -> error 1
answer 1 1 sex true -> error 4
answer 1 1 sex #3 -> error 9
answer 1 1 sex 5 -> error 8
answer 1 1 sex - -> ok
answer 1 1 note - -> ok
answer 1 1 sex dontknow -> error 8
answer 1 1 sex refused -> ok
complete 4 1 -> error 1
complete 1 2 -> error 9
complete 3 1 -> error 20
complete 1 1 -> error 15
return 4 1 -> error 1
return 0 1 -> error 20
return 1 1 -> error 9
show 4 9 -> error 1
show 1 9 -> error 9
show 1 999999999 -> error 9
open 4 9 -> error 1
open 1 9 -> error 9
say 4 9 x 9 -> error 1
say 1 9 x 9 -> error 9
say 1 1 nobody 9 -> error 9
say 1 1 row 0 -> error 9
say 1 1 sex.1 2 -> error 1
say 1 1 sex.1 1 -> error 3
say 1 1 kid 1 -> error 3
say 1 1 kid.0 1 -> error 1
say 1 1 kid.1000 1 -> error 1
say 1 1 kid.999 1 -> ok Enfant
say 1 1 sex 999999999 -> error 1
count sex = -> error 10
count kid = 1 -> error 5
count nobody -> error 5
count sex -> error 8
count sex = 1 -> error 8
count kids -> error 8
table nobody note -> error 5
table sex nobody -> error 5
table note nobody -> error 8
table sex note -> error 8
table p p -> error 5
dead -> error 4
`)
}

// TestRunWords holds which lines are commands (T12).
func TestRunWords(t *testing.T) {
	for _, bad := range []string{
		"", " ", "x", "State 0", " state 0", "state", "state ", "state  0", "state 0 ", "state 0 1", "state\t0", "state 00", "state 01", "state -1", "state +1", "state 1000000000", "state 0.0", "state a",
		"quota", "quota a", "quota a 1", "quota a 1 ", "quota a 1  true", "quota  1 true", "quota a 01 true", "quota a x true", "quota a 1000000000 true",
		"case 1 1", "case 1 1 ", "case 1 1 a b", "case 1 1 a ", "case 1  a", "case x 1 a", "case 1 x a", "case  1 1 a", "case 1000000000 1 a", "case 1 1000000000 a",
		"assign 1", "assign 1 2 3", "assign 1 ", "assign a 1", "off", "off ", "off a", "off 1 2", "permit a", "permit  1", "permit a b", "permit a 1 1",
		"answer 1 1 sex", "answer 1 1 sex ", "answer 1 1 sex  #1", "answer 1 1 sex #1 ", "answer 1 1 sex #01", "answer 1 1 sex 'a", "answer 1 1 sex man", "answer 1 1 sex #1000", "answer 1 1  #1", "answer 1 1 Sex #1", "answer 1 1 se-x #1", "answer 1 1 sex. #1", "answer 1 1 sex.01 #1", "answer 1 1 .1 #1", "answer 1 1 sex..1 #1", "answer 1 1 sex.1000000000 #1", "answer 1 1 sex.x #1", "answer 1 01 sex #1", "answer x 1 sex #1", "answer 1 x sex #1", "answer 4 1 sex x",
		"complete 1", "complete 1 1 1", "complete 1 ", "return 1", "return 1 1 1", "return a 1", "sync 1", "sync 1 ", "sync 1 1 1", "sync 1  1", "sync 4 x",
		"show 1", "show 1 1 1", "show 4 x", "open 1", "open 1 x", "open 1 1 ", "say 1 1 sex", "say 1 1 sex ", "say 1 1 sex x", "say 1 1 sex 0 0", "say 1 1 Sex 0", "say 1 1 sex 1000000000", "say 1 1 sex 00",
		"data ", "data 1", "datas", "dead ", "dead x", "count", "count ", "count  true", "table", "table a", "table a ", "table a b c", "table  b", "table  a b", "end", "end x",
	} {
		// A line that is no command leaves the plan open.
		got := Run(consoleLines + "end\n" + bad + "\nquota a 1 true\nstate 0\nquota b 1 true\n")
		is(t, bad, strings.ReplaceAll(got, "\n", ","), "error 10,ok,ok 0 0 0 0,error 11,")
	}
	for _, good := range []string{
		"state 0", "state 999999999", "case 0 0 a", "case 999999999 999999999 ~!#", "assign 0 0", "off 0", "permit !? 0", "answer 999999999 0 0_a.0.999999999 'a  b '", "answer 0 0 a true", "answer 0 0 a -", "complete 0 0", "return 0 0",
		"sync 7 8", "show 0 0", "open 0 0", "say 0 0 0 0", "data", "count ((", "count x", "count !", "table ! ?", "dead",
	} {
		got := Run(consoleLines + "end\n" + good + "\nquota a 1 true\n")
		if !strings.HasSuffix(got, "\nerror 11\n") || strings.Count(got, "\n") != 2 {
			t.Errorf("%q: %q", good, got)
		}
	}
	is(t, "an expression with blanks", Run(consoleLines+"end\nquota a 1   true\nquota a 1 true  \nquota b 1 sex  =  #1\n"), "error 10\nok\nok\n")
	is(t, "an expression that cannot be read has a form", Run(consoleLines+"end\nquota a 1 ((\nquota a 1 true\ncount ((\nquota b 1 true\n"), "error 10\nok\nerror 10\nerror 11\n")
	many := ""
	for n := range 32 {
		many += fmt.Sprintf("quota q%d 1 true\n", n)
	}
	is(t, "many quotas", Run(consoleLines+"end\n"+many+"state 0\n"), strings.Repeat("ok\n", 30)+"error 2\nerror 2\nok 0 0 0"+strings.Repeat(" 0", 30)+"\n")
}

// TestRunSay holds what is said by pages, and by questions without a phrase.
func TestRunSay(t *testing.T) {
	play(t, consoleLines, `
case 1 1 a -> ok
sync 0 1 -> ok 1
say 0 1 p 1 -> ok Bienvenue
say 0 1 sex 0 -> ok You?
say 0 1 note 0 -> ok 
answer 1 1 sex #2 -> ok
answer 1 1 kids 9 -> ok
open 1 1 -> ok kids kid.1 kid.2 kid.3 kid.4 kid.5 kid.6 kid.7 kid.8 kid.9
complete 1 1 -> error 13
say 1 1 kid.9 0 -> ok Child 9 of 9
`)
}

// TestRunTables holds tables of two questions.
func TestRunTables(t *testing.T) {
	play(t, `form f 1
languages en
list two
  option 1
  option 2
list three
  option 7
  option 5
  option 6
page p
  question a choice two
  question b choices three 0 3
loop x over b
  page q
    question c choice two
`, `
case 1 1 s -> ok
case 2 1 s -> ok
case 3 1 s -> ok
case 4 1 s -> ok
sync 0 1 -> ok 4
answer 1 1 a #2 -> ok
answer 1 1 b {#6,#7} -> ok
answer 1 2 a #2 -> ok
answer 1 2 b {#5} -> ok
answer 1 3 a #1 -> ok
answer 1 3 b {#7} -> ok
answer 1 4 b {#5,#6,#7} -> ok
complete 1 1 -> ok
complete 1 2 -> ok
complete 1 3 -> ok
table a b -> ok 0 0 0 0 0 0
sync 1 0 -> ok 14
table a b -> ok 1 0 0 1 1 1
table b a -> ok 1 1 0 1 0 1
table a a -> ok 1 0 0 2
table b b -> ok 2 0 1 0 1 0 1 0 1
table a c -> error 3
table c nobody -> error 3
complete 1 4 -> ok
sync 1 0 -> ok 15
table b b -> ok 3 1 2 1 2 1 2 1 2
data -> ok 4 112
`)
}

// TestRunJoined holds what is told of a case whose answers, once they are joined, have a route that is too large.
func TestRunJoined(t *testing.T) {
	form := "form f 1\nlanguages en\npage p\n  question a number 0 20\n  question b number 0 20\nloop x count a\n  loop y count b\n    page q\n"
	for n := range 8 {
		form += fmt.Sprintf("      question q%d number 0 9\n", n)
	}
	play(t, form, `
case 1 1 s -> ok
sync 0 1 -> ok 1
assign 1 2 -> ok
sync 0 2 -> ok 2
answer 1 1 a 20 -> ok
answer 2 1 b 20 -> ok
open 1 1 -> ok
sync 1 0 -> ok 3
sync 2 0 -> ok 4
show 0 1 -> ok a 20 b 20
open 0 1 -> error 2
open 0 2 -> error 9
say 0 1 a 0 -> error 2
say 0 1 nobody 7 -> error 2
state 0 -> ok 1 0 0
data -> ok 0 0
`)
}

// TestRunDead holds the command dead.
func TestRunDead(t *testing.T) {
	const plain = `form army 1
languages en
list two
  option 1
  option 2
page p
  question sex choice two need
  question army choice two need
    if sex = #1
  question rank number 0 9
    if army = #1 and sex = #2
end bye
  if answered(army) or sex = #2
page last
  question more number 0 9
`
	play(t, plain, "dead -> ok rank last more\ndata -> ok 0 0\ndead -> ok rank last more\ntable sex army -> ok 0 0 0 0")
	alive := plain[:strings.Index(plain, "  question rank")]
	play(t, alive, "dead -> ok\nstate 3 -> ok 0 0 0")
	wide := "form wide 1\nlanguages en\nlist l\n"
	for code := 1; code <= 40; code++ {
		wide += fmt.Sprintf("  option %d\n", code)
	}
	wide += "page p\n"
	condition := "true"
	for _, name := range []string{"a", "b", "c"} {
		wide += "  question " + name + " choice l\n"
		condition += " and " + name + " = #1"
	}
	play(t, wide+"  question d number 0 9\n    if "+condition+"\n", "dead -> error 2\ndead -> error 2")
	if f, _, fault := quest.Read(plain); fault != api.OK || f.Name != "army" {
		t.Error(fault)
	}
}

// TestRunMany holds a script with as many commands as there can be, for a form with many questions.
func TestRunMany(t *testing.T) {
	script, want := "form f 1\nlanguages en\npage p\n", ""
	for n := range 280 {
		script += fmt.Sprintf("  question q%03d text 0 200\n", n)
	}
	script += "end\n"
	do := func(command, reply string) {
		script, want = script+command+"\n", want+reply+"\n"
	}
	for id := 1; id <= 90; id++ {
		do(fmt.Sprintf("case %d 0 s", id), "error 1")
		do(fmt.Sprintf("case %d 1 s", id), "ok")
	}
	do("sync 0 1", "ok 90")
	for id := 1; id <= 90; id++ {
		do(fmt.Sprintf("answer 1 %d q%03d '%s'", id, id, strings.Repeat("x", 200)), "ok")
		do(fmt.Sprintf("complete 1 %d", id), "ok")
	}
	do("sync 1 0", "ok 270")
	for range 19 {
		do("count answered(q007)", "ok 1")
		do("data", "ok 90 "+fmt.Sprint(90*(len("case 1 1/1 's'\nq001 ''\n")+200)+81))
	}
	is(t, "lines", strings.Count(want, "\n"), 400)
	is(t, "replies", Run(script), want)
}
