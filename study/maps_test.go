package study

import (
	"fmt"
	"strings"
	"testing"

	"canvass/api"
)

// The old and the new version of a form for the tests of T9 and T10.
const oldLines = `form home 1
languages en
list sexes
  option 1 "man"
  option 2 "woman"
  option 3 "other"
list tastes
  option 4 "sweet"
  option 5 alone "none"
  option 6 "salty"
  option 7
page p
  question sex choice sexes reasons refused
    text "Sex"
  question taste choices tastes 0 4
    text "Taste"
  question age number 0 120 places 1
    text "Age"
  question note text 0 60
    text "Note"
  question born day @1900-01-01 @2020-12-31
  question kids number 0 9
  question gone number 0 9
compute known = answered(sex)
loop row count kids
  page q
    question kid number 0 99
      text "Kid"
    question toy choice sexes
      text "Toy"
`

const newLines = `form home 2
languages en
list sexes
  option 3 "other"
  option 2 "female"
  option 1 "man"
  option 8 "unknown"
list tastes
  option 7
  option 4 "sweet"
  option 6 "Salty"
  option 9 "bitter"
page start
  question gender choice sexes
    text "Sex"
  question sex choice sexes
    text "Sex now"
  question taste choices tastes 0 2
    text "Taste"
  question age number 18 99
    text "Age"
  question years number 0 120 places 1
    text "Age"
  question note number 0 9
    text "Note"
  question remark text 0 5
    text "Note"
  question born day @1900-01-01 @2020-12-31
  question kids number 0 9
loop row count kids
  page q
    question kid number 0 9
      text "Kid"
loop line count kids
  page r
    question toy choice sexes
      text "Toy"
    question gone number 0 9
`

// mapsOf reads maps, separated by commas, as `sex gender 1>3 2>0`.
func mapsOf(t *testing.T, text string) []api.Map {
	t.Helper()
	var out []api.Map
	for _, part := range strings.FieldsFunc(text, func(r rune) bool { return r == ',' }) {
		words := strings.Fields(part)
		m := api.Map{From: words[0], To: words[1]}
		for _, word := range words[2:] {
			var move api.Move
			if _, err := fmt.Sscanf(word, "%d>%d", &move.From, &move.To); err != nil {
				t.Fatal(text, err)
			}
			m.Codes = append(m.Codes, move)
		}
		out = append(out, m)
	}
	return out
}

func mapsText(l []api.Map) string {
	var out []string
	for _, m := range l {
		text := m.From + " " + m.To
		for _, move := range m.Codes {
			text += fmt.Sprintf(" %d>%d", move.From, move.To)
		}
		out = append(out, text)
	}
	return strings.Join(out, ", ")
}

// TestCheckMaps holds T9.
func TestCheckMaps(t *testing.T) {
	a, b := formOf(t, oldLines), formOf(t, newLines)
	for text, want := range map[string]api.Fault{
		"":                      api.OK,
		"age years":             api.OK,
		"sex gender, age years": api.ErrOrder,
		"age years, note remark, sex gender 1>8 2>0 3>1, taste taste 4>9 5>9": api.OK,
		"sex sex 1>1 2>1 3>1":             api.OK,
		"toy gender 1>1":                  api.OK,
		"sex gender, toy toy":             api.OK,
		"nobody years":                    api.ErrName,
		"p years":                         api.ErrName,
		"known years":                     api.ErrName,
		"row years":                       api.ErrName,
		"years years":                     api.ErrName,
		"age nobody":                      api.ErrName,
		"age start":                       api.ErrName,
		"age line":                        api.ErrName,
		"age age, age years":              api.ErrOrder,
		"kids kids, born born":            api.ErrOrder,
		"age years, born years":           api.ErrTwice,
		"age years, born age, kids years": api.ErrTwice,
		"age years 1>1":                   api.ErrType,
		"sex years 1>1":                   api.ErrType,
		"age sex 1>1":                     api.ErrType,
		"sex taste 1>4":                   api.ErrConflict, // taste leads there, too
		"taste sex 4>1":                   api.ErrConflict,
		"sex taste 1>4, taste sex 4>1":    api.OK,
		"sex gender 4>1":                  api.ErrName,
		"sex gender 0>1":                  api.ErrName,
		"sex gender 1>4":                  api.ErrName,
		"sex gender 1>-1":                 api.ErrName,
		"sex gender 2>1 1>1":              api.ErrOrder,
		"sex gender 1>1 1>2":              api.ErrOrder,
		"sex gender 3>1 2>77":             api.ErrName,
		"age kids":                        api.ErrConflict,
		"age kids, kids years":            api.OK,
		"age note, note age":              api.OK,
		"age note":                        api.ErrConflict,
		"age born, kids nobody":           api.ErrName,
		"age kids, born note":             api.ErrConflict,
	} {
		maps := mapsOf(t, text)
		refuses(t, text, want, CheckMaps(a, b, maps))
		given, lost, fault := Carry(a, b, maps, nil)
		refuses(t, text, want, given, lost, fault)
		given, lost, fault = Carry(a, b, maps, answers(t, "nobody=1"))
		if want == api.OK {
			want = api.ErrName
		}
		refuses(t, text, want, given, lost, fault)
	}
	type args struct {
		a, b api.Form
		maps []api.Map
	}
	second := func(text string) func(x *args) {
		return func(x *args) { x.maps = append(x.maps[:1:1], mapsOf(t, text)...) }
	}
	climb(t, func() args { return args{a, b, mapsOf(t, "note remark, sex gender 1>1")} }, func(x args) api.Fault { return CheckMaps(x.a, x.b, x.maps) }, []rung[args]{
		{"the old form", func(x *args) { x.a = wrong(a) }, api.ErrRange},
		{"the new form", func(x *args) { x.b.Name = "not" }, api.ErrName},
		{"too many maps", func(x *args) { x.maps = append(x.maps, make([]api.Map, api.MaxMaps-1)...) }, api.ErrLarge},
		{"a name", second("b remark 7>1 7>1"), api.ErrName},
		{"the order", second("born remark 7>1 7>1"), api.ErrOrder},
		{"To twice", second("sex remark 7>1 7>1"), api.ErrTwice},
		{"Codes of a number", second("sex years 7>1 7>1"), api.ErrType},
		{"a code", second("sex gender 3>1 2>7"), api.ErrName},
		{"the order of codes", second("sex gender 3>1 2>2"), api.ErrOrder},
		{"a conflict", second("taste sex"), api.ErrConflict},
	})
	refuses(t, "a conflict behind all maps", api.ErrOrder, CheckMaps(a, b, mapsOf(t, "age kids, age years")))
	many := make([]api.Map, api.MaxMaps+1)
	for i := range many {
		many[i] = api.Map{From: fmt.Sprintf("a%03d", i), To: fmt.Sprintf("b%03d", i)}
	}
	big, other := manyForm(t, "a", 201, true), manyForm(t, "b", 201, true)
	refuses(t, "200 maps", api.OK, CheckMaps(big, other, many[:200]))
	refuses(t, "201 maps", api.ErrLarge, CheckMaps(big, other, many))
}

// manyForm returns a form with questions a000, a001 and so on, all with the same phrase.
func manyForm(t *testing.T, letter string, count int, spoken bool) api.Form {
	t.Helper()
	text := "form f 1\nlanguages en\npage start\n"
	for i := range count {
		text += fmt.Sprintf("  question %s%03d number 0 9\n", letter, i)
		if spoken {
			text += "    text \"?\"\n"
		}
	}
	return formOf(t, text)
}

// TestSuggest holds T9.
func TestSuggest(t *testing.T) {
	a, b := formOf(t, oldLines), formOf(t, newLines)
	for _, x := range []struct{ what, old, new, want string }{
		{"nothing is gone", oldLines, newLines, ""},
		{"the first one in the order of items", strings.Replace(oldLines, "question age", "question old", 1), newLines, "old age"},
		{"what the old form has as well is not taken", strings.Replace(oldLines, "question note", "question notes", 1), strings.Replace(newLines, "question note number", "question n number", 1), "notes remark"},
		{"another kind", strings.Replace(oldLines, "question age number 0 120 places 1", "question old text 0 9", 1), newLines, ""},
		{"another phrase", strings.Replace(strings.Replace(oldLines, "question age", "question old", 1), "\"Age\"", "\"Years\"", 1), newLines, ""},
		{"no phrase", strings.Replace(oldLines, "question born", "question birth", 1), newLines, ""},
		{"other loops", strings.Replace(oldLines, "question toy", "question thing", 1), newLines, ""},
		{"the same loops", strings.Replace(oldLines, "question kid ", "question child ", 1), newLines, "child kid"},
		{"the names of both are those of other items", strings.Replace(oldLines, "question kid ", "question start ", 1), strings.Replace(newLines, "question kid ", "question p ", 1), "start p"},
	} {
		old, next := formOf(t, x.old), formOf(t, x.new)
		l, fault := Suggest(old, next)
		is(t, x.what, mapsText(l), x.want)
		refuses(t, x.what, api.OK, l, fault)
		refuses(t, x.what, api.OK, CheckMaps(old, next, l))
	}
	page := func(names string) api.Form {
		text := "form f 1\nlanguages en fr\npage start\n"
		for _, name := range strings.Fields(names) {
			phrase := "\"\" \"\""
			if strings.HasPrefix(name, "x") {
				phrase = "\"\" \"a\""
			}
			text += "  question " + name + " number 0 9\n    text " + phrase + "\n"
		}
		return formOf(t, text)
	}
	for _, x := range []struct{ old, new, want string }{
		{"c a b", "g f e", "a g, b f, c e"},
		{"c a b", "f e", "a f, b e"},
		{"c a b", "b f e", "a f, c e"},
		{"c a b", "b e c a", ""},
		{"xc a xb", "e xg f", "a e, xb xg"},
		{"a", "", ""},
		{"", "a", ""},
	} {
		l, fault := Suggest(page(x.old), page(x.new))
		is(t, x.old+" to "+x.new, mapsText(l), x.want)
		refuses(t, x.old, api.OK, l, fault)
	}
	one := formOf(t, "form f 1\nlanguages en\npage start\n  question a number 0 9\n    text \"\"\n")
	l, fault := Suggest(one, page("b"))
	is(t, "another number of languages", mapsText(l), "")
	refuses(t, "another number of languages", api.OK, l, fault)
	for _, count := range []int{200, 201} {
		l, fault := Suggest(manyForm(t, "a", count, true), manyForm(t, "b", 250, true))
		want := api.OK
		if count > api.MaxMaps {
			want = api.ErrLarge
		}
		refuses(t, fmt.Sprint(count, " maps"), want, l, fault)
	}
	l, fault = Suggest(manyForm(t, "a", 250, true), manyForm(t, "b", 200, true))
	refuses(t, "200 of 250", api.OK, l, fault)
	l, fault = Suggest(wrong(a), b)
	refuses(t, "the old form", api.ErrRange, l, fault)
	b.Name = "not"
	l, fault = Suggest(a, b)
	refuses(t, "the new form", api.ErrName, l, fault)
	l, fault = Suggest(wrong(a), b)
	refuses(t, "the old form comes first", api.ErrRange, l, fault)
}
