package study

import (
	"fmt"
	"math/big"
	"reflect"
	"slices"
	"strconv"
	"strings"
	"testing"

	"canvass/api"
	"canvass/quest"
	"canvass/value"
)

// homeLines is a form with all kinds of cells, loops and lists.
const homeLines = `form home 1
languages en fr
list sexes
  option 1 "Man" "Homme"
  option 2 "Woman" "Femme"
list many
  option 7 "Seven" "Sept"
  option 3 alone "" ""
  option 5
  option 9 last "Nine {{of}}" "Neuf"
page p
  text "Page" "Page"
  question sex choice sexes need reasons refused
    text "You?" "Vous?"
  question age number 0 120 places 2
    text "How old, {sex}?" "Age?"
  question likes choices many 0 3 reasons dontknow
  question born day @1900-01-01 @2020-12-31
  question note text 0 60
  question kids number 0 9
    if sex = #2
compute grown = age >= 18
loop row count kids
  page q
    question kid number 0 99
      text "Child {row(row)}" "Enfant"
    question kind choice sexes
loop like over likes
  loop deep count 2
    page r
      question why text 0 20
    compute long = size(why)
end bye
  text "Bye" "Salut"
`

func formOf(t *testing.T, text string) api.Form {
	t.Helper()
	f, line, fault := quest.Read(text)
	if fault != api.OK {
		t.Fatal("Read", line, fault)
	}
	return f
}

// short returns a form of one page, from lines without their blanks: lists as `list l 1 2`, the others as they are.
func short(t *testing.T, lines ...string) api.Form {
	t.Helper()
	head, page := "form f 1\nlanguages en\n", "page start\n"
	for _, line := range lines {
		words := strings.Fields(line)
		if words[0] != "list" {
			page += "  " + line + "\n"
			continue
		}
		head += "list " + words[1] + "\n"
		for _, code := range words[2:] {
			head += "  option " + code + "\n"
		}
	}
	return formOf(t, head+page)
}

func expr(t *testing.T, text string) api.Expr {
	t.Helper()
	e, place, fault := value.Parse(text)
	if fault != api.OK {
		t.Fatal("Parse", text, place, fault)
	}
	return e
}

func printed(e api.Expr) string {
	text, fault := value.Print(e)
	if fault != api.OK {
		return fmt.Sprint("fault ", fault)
	}
	return text
}

// answers reads given answers, as `sex=#1 kid.2=20`; values have no blanks.
func answers(t *testing.T, text string) []api.Given {
	t.Helper()
	var out []api.Given
	for _, word := range strings.Fields(text) {
		at, shown, _ := strings.Cut(word, "=")
		v, fault := value.Read(shown)
		if fault != api.OK {
			t.Fatal("Read", word, fault)
		}
		parts := strings.Split(at, ".")
		g := api.Given{Key: api.Key{Name: parts[0]}, Value: v}
		for _, n := range parts[1:] {
			number, err := strconv.Atoi(n)
			if err != nil {
				t.Fatal("no key", at)
			}
			g.Key.Row = append(g.Key.Row, number)
		}
		out = append(out, g)
	}
	return out
}

// answersText returns the text that answers reads.
func answersText(l []api.Given) string {
	var words []string
	for _, g := range l {
		word := g.Key.Name
		for _, n := range g.Key.Row {
			word += "." + strconv.Itoa(n)
		}
		text, fault := value.Show(g.Value)
		if fault != api.OK {
			text = "fault"
		}
		words = append(words, word+"="+text)
	}
	return strings.Join(words, " ")
}

// parts returns the ratio that a text as 1/2 or 3 has.
func parts(text string) api.Ratio {
	num, den, _ := strings.Cut(text, "/")
	if den == "" {
		den = "1"
	}
	return api.Ratio{Num: num, Den: den}
}

// dataOf returns a data set of cases as `4 1/2 seed sex=#1 age=17`: Id, Weight, Seed and answers.
func dataOf(t *testing.T, cases ...string) []api.Datum {
	t.Helper()
	var out []api.Datum
	for _, text := range cases {
		words := strings.SplitN(text+" ", " ", 4)
		id, err := strconv.Atoi(words[0])
		if err != nil {
			t.Fatal("no case", text)
		}
		out = append(out, api.Datum{Id: id, Weight: parts(words[1]), Seed: words[2], Given: answers(t, words[3])})
	}
	return out
}

func dataText(l []api.Datum) string {
	var lines []string
	for _, d := range l {
		lines = append(lines, fmt.Sprint(d.Id, " ", show(d.Weight), " ", d.Seed, " ", answersText(d.Given)))
	}
	return strings.Join(lines, "\n")
}

// line returns a line of a table from a text as `title: expression`.
func line(t *testing.T, text string) api.Line {
	t.Helper()
	title, e, _ := strings.Cut(text, ": ")
	return api.Line{Title: title, If: expr(t, e)}
}

func linesFrom(t *testing.T, texts ...string) []api.Line {
	t.Helper()
	var out []api.Line
	for _, text := range texts {
		out = append(out, line(t, text))
	}
	return out
}

// show returns a text of any results; ratios are as 1/2, or 3.
func show(l ...any) string {
	var words []string
	for _, x := range l {
		switch y := x.(type) {
		case api.Ratio:
			words = append(words, strings.TrimSuffix(y.Num+"/"+y.Den, "/1"))
		case api.ColumnTotal:
			words = append(words, "("+show(y.Cases, y.Sum, y.Effective, y.Known, y.KnownSum, y.Mean)+")")
		case api.TableCell:
			text := show(y.Cases, y.Sum, y.Part)
			for _, n := range y.Above {
				text += "+" + strconv.Itoa(n)
			}
			words = append(words, "("+text+")")
		case []api.Line:
			for _, line := range y {
				words = append(words, line.Title+": "+printed(line.If)+";")
			}
		case api.Counted:
			words = append(words, "totals")
			for _, total := range y.Totals {
				words = append(words, show(total))
			}
			for _, row := range y.Cells {
				words = append(words, "row")
				for _, cell := range row {
					words = append(words, show(cell))
				}
			}
		default:
			words = append(words, fmt.Sprint(y))
		}
	}
	return strings.Join(words, " ")
}

func is(t *testing.T, what string, got, want any) {
	t.Helper()
	if g, w := fmt.Sprint(got), fmt.Sprint(want); g != w {
		t.Errorf("%s\ngot  %.3000s\nwant %.3000s", what, g, w)
	}
}

// refuses holds a fault, and that all other results are zero with it.
func refuses(t *testing.T, what string, want api.Fault, got ...any) {
	t.Helper()
	last := len(got) - 1
	if got[last] != want {
		t.Errorf("%s: fault %v, not %d", what, got[last], want)
	}
	if want == api.OK {
		return
	}
	for _, x := range got[:last] {
		if v := reflect.ValueOf(x); !v.IsZero() && (v.Kind() != reflect.Slice || v.Len() > 0) {
			t.Errorf("%s: with a fault the result is %.100s", what, fmt.Sprint(x))
		}
	}
}

// rung is a way to spoil an argument, and the fault that comes of it.
type rung[T any] struct {
	what  string
	spoil func(x *T)
	want  api.Fault
}

// climb holds the faults of rungs, each one alone, and each one together with all later ones, of which none may be told.
func climb[T any](t *testing.T, base func() T, check func(x T) api.Fault, rungs []rung[T]) {
	t.Helper()
	if fault := check(base()); fault != api.OK {
		t.Error("not spoiled", fault)
	}
	for i, r := range rungs {
		x := base()
		r.spoil(&x)
		if fault := check(x); fault != r.want {
			t.Errorf("%s: fault %d, not %d", r.what, fault, r.want)
		}
		x = base()
		for _, later := range slices.Backward(rungs[i:]) {
			later.spoil(&x)
		}
		if fault := check(x); fault != r.want {
			t.Errorf("%s, ahead of what comes later: fault %d, not %d", r.what, fault, r.want)
		}
	}
}

// wrong returns a form that quest.Check refuses with ErrRange.
func wrong(f api.Form) api.Form {
	f.Version = 0
	return f
}

// rat returns the number of a ratio.
func rat(r api.Ratio) *big.Rat {
	out, ok := new(big.Rat).SetString(r.Num + "/" + r.Den)
	if !ok {
		panic("no ratio: " + r.Num + "/" + r.Den)
	}
	return out
}

// ratioBy writes a number as a ratio of any length.
func ratioBy(x *big.Rat) api.Ratio { return api.Ratio{Num: x.Num().String(), Den: x.Denom().String()} }

// fits reports whether a ratio is within MaxDigits.
func fits(r api.Ratio) bool {
	return len(strings.TrimPrefix(r.Num, "-")) <= api.MaxDigits && len(r.Den) <= api.MaxDigits
}
