package study

import (
	"fmt"
	"strings"
	"testing"

	"canvass/api"
	"canvass/value"
)

// fullData is a data set with all kinds of values and keys, and fullText its text.
func fullData(t *testing.T) []api.Datum {
	t.Helper()
	l := dataOf(t, "1 1 it's sex=#1 age=17.25 likes={#3,#5} born=@1999-12-31", "7 22/7 ~!'' kid.2=3 kid.10=-0.0001 kid.1=- sex=refused likes={}", "999999999 1/999999999999  why.7.2='x' age=dontknow born=noanswer", "1000000000 1 s")
	l[2].Given = append(l[2].Given, api.Given{Key: api.Key{Name: "note"}, Value: api.Value{Kind: api.Text, S: " it's 'a' case 1 1/1 'x' "}})
	return l[:3]
}

const fullText = `case 1 1/1 'it''s'
sex #1
age 17.25
likes {#3,#5}
born @1999-12-31
case 7 22/7 '~!'''''
kid.2 3
kid.10 -0.0001
kid.1 -
sex refused
likes {}
case 999999999 1/999999999999 ''
why.7.2 'x'
age dontknow
born noanswer
note ' it''s ''a'' case 1 1/1 ''x'' '
`

// TestDataText holds T8.
func TestDataText(t *testing.T) {
	f := formOf(t, homeLines)
	text, fault := DataText(f, fullData(t))
	is(t, "DataText", text, fullText)
	refuses(t, "DataText", api.OK, text, fault)
	for _, text := range []string{fullText, strings.TrimSuffix(fullText, "\n")} {
		l, line, fault := ReadData(f, text)
		is(t, "ReadData", dataText(l), dataText(fullData(t)))
		is(t, "ReadData", fmt.Sprint(line, fault), "0 0")
	}
	text, fault = DataText(f, nil)
	is(t, "no cases", text, "")
	refuses(t, "no cases", api.OK, text, fault)
	l, line, fault := ReadData(f, "")
	is(t, "no text", fmt.Sprint(l, line, fault), "[] 0 0")
	l, line, fault = ReadData(f, "case 1 1/1 ''")
	is(t, "a line without its end", fmt.Sprint(l, line, fault), "[{1  {1 1} []}] 0 0")
	other := short(t, "question case number 0 9", "question b number 0 9")
	l, line, fault = ReadData(other, "case 1 1/1 'a'\nb 2\ncase 5\ncase 2 1/1 'b'\ncase -\n")
	is(t, "a question named case", dataText(l), "1 1 a b=2 case=5\n2 1 b case=-")
	is(t, "a question named case", fmt.Sprint(line, fault), "0 0")
}

// TestDataTextLarge holds the bound of T8.
func TestDataTextLarge(t *testing.T) {
	f := formOf(t, "form f 1\nlanguages en\nloop a count 20\n  loop b count 20\n    page p\n      question q text 0 200\n")
	text := "case 1 1/1 ''\n"
	for n := 1; len(text) < api.MaxDataText-420; n++ {
		text += fmt.Sprintf("q.%d.%d '%s'\n", n/999+1, n%999+1, strings.Repeat("x", 200))
	}
	const frame = len("q.999.999 ''\n")
	half := (api.MaxDataText - len(text)) / 2
	text += "q.999.998 '" + strings.Repeat("y", half-frame) + "'\n"
	text += "q.999.999 '" + strings.Repeat("y", api.MaxDataText-len(text)-frame) + "'\n"
	l, line, fault := ReadData(f, text)
	if fault != api.OK || line != 0 || len(text) != api.MaxDataText {
		t.Fatal("ReadData", line, fault, len(text))
	}
	again, fault := DataText(f, l)
	refuses(t, "500000 bytes", api.OK, again, fault)
	if again != text {
		t.Error("another text")
	}
	l[0].Seed = "s"
	again, fault = DataText(f, l)
	refuses(t, "500001 bytes", api.ErrLarge, again, fault)
	l[0].Weight = parts("0")
	again, fault = DataText(f, l)
	refuses(t, "the data come first", api.ErrRange, again, fault)
	l, line, fault = ReadData(f, strings.Replace(text, "''", "'s'", 1))
	refuses(t, "500001 bytes", api.ErrLarge, l, line, fault)
	l, line, fault = ReadData(f, strings.Repeat("?", api.MaxDataText+1))
	refuses(t, "500001 bytes, ahead of lines", api.ErrLarge, l, line, fault)
	l, line, fault = ReadData(wrong(f), strings.Repeat("?", api.MaxDataText+1))
	refuses(t, "the form comes first", api.ErrRange, l, line, fault)
	again, fault = DataText(wrong(f), make([]api.Datum, 2001))
	refuses(t, "the form comes first", api.ErrRange, again, fault)
}

// TestReadDataSyntax holds which lines ReadData refuses.
func TestReadDataSyntax(t *testing.T) {
	f := formOf(t, homeLines)
	const head = "case 1 1/1 's'\nage 5\n"
	for _, bad := range []string{
		"", " ", "case", "case ", "case 2 ", "case 2 1/1", "case 2 1/1 ", "case 2 1/1 s", "case 2 1/1  's'", "case  2 1/1 's'", "case 2  1/1 's'", " case 2 1/1 's'", "case 2 1/1 's' ", "Case 2 1/1 's'",
		"case 02 1/1 's'", "case -2 1/1 's'", "case +2 1/1 's'", "case 1000000000 1/1 's'", "case 2. 1/1 's'", "case x 1/1 's'", "case.2 1/1 's'",
		"case 2 1 's'", "case 2 / 's'", "case 2 1/ 's'", "case 2 /1 's'", "case 2 2/4 's'", "case 2 1/0 's'", "case 2 1/1/1 's'", "case 2 01/1 's'", "case 2 1/-1 's'", "case 2 1/" + strings.Repeat("1", 2001) + " 's'",
		"case 2 1/1 'it's'", "case 2 1/1 'a\tb'", "case 2 1/1 '\u00e9'", "case 2 1/1 '" + strings.Repeat("s", 201) + "'", "case 2 1/1 #1", "case 2 1/1 -",
		"age", "age ", "age  5", " age 5", "age 5 ", "age\t5", "age 5\r", "age 05", "age 5.0", "age +5", "age x", "age 1 2", "Age 5", "a-b 5", "a.b 5", " 5", ".1 5", "age. 5", "age.01 5", "age..1 5", "age.1. 5", "age.-1 5", "age.1000000000 5", "age.1 .2 5", "age,1 5",
		"grown true", "grown false", "sex 'a", "sex {#2,#1}", "sex #1000", "note '" + strings.Repeat("x", 201) + "'", "born @2021-02-29", "end",
	} {
		for _, text := range []string{head + bad + "\n", head + bad + "\n?\n", head + bad + "\ncase 0 1/1 'x'"} {
			l, line, fault := ReadData(f, text)
			if line != 2 || fault != api.ErrSyntax || len(l) > 0 {
				t.Errorf("%q: line %d, fault %d", bad, line, fault)
			}
		}
	}
	for text, want := range map[string]int{"\n": 0, "age 5\n": 0, "age 5\ncase 1 1/1 's'\n": 0, "?": 0, head + "\n": 2, head + "?": 2, "case 1 1/1 's'\n\nage 5\n": 1, "case 1 1/1 's'\nage 5\n\n\n": 2} {
		l, line, fault := ReadData(f, text)
		if line != want || fault != api.ErrSyntax || len(l) > 0 {
			t.Errorf("%q: line %d, fault %d", text, line, fault)
		}
	}
}

// TestReadDataFaults holds that lines which DataText writes for what CheckData refuses are read, and then refused as CheckData has it.
func TestReadDataFaults(t *testing.T) {
	f := formOf(t, homeLines)
	for _, x := range []struct {
		text string
		want api.Fault
	}{
		{"case 0 1/1 's'", api.ErrRange},
		{"case 2 1/1 's'\ncase 2 1/1 's'", api.ErrOrder},
		{"case 2 0/1 's'", api.ErrRange},
		{"case 2 -1/3 's'", api.ErrRange},
		{"case 2 1000000000000/1 's'", api.ErrLarge},
		{"case 2 1/" + strings.Repeat("1", 2000) + " 's'", api.ErrLarge},
		{"case 2 1/1 'a b'", api.ErrRange},
		{"case 2 1/1 '" + strings.Repeat("s", 41) + "'", api.ErrLarge},
		{"case 2 1/1 '" + strings.Repeat("s", 200) + "'", api.ErrLarge},
		{"case 2 1/1 's'\nnobody 1", api.ErrName},
		{"case 2 1/1 's'\n0_a 1", api.ErrName},
		{"case 2 1/1 's'\n" + strings.Repeat("_", 999) + " 1", api.ErrName},
		{"case 2 1/1 's'\nand 1", api.ErrName},
		{"case 2 1/1 's'\ncase 3", api.ErrName},
		{"case 2 1/1 's'\nage.1 1", api.ErrForm},
		{"case 2 1/1 's'\nage.1.2.3.4.5.999999999 1", api.ErrForm},
		{"case 2 1/1 's'\nkid 1", api.ErrForm},
		{"case 2 1/1 's'\nkid.0 1", api.ErrRange},
		{"case 2 1/1 's'\nkid.999999999 1", api.ErrRange},
		{"case 2 1/1 's'\nage 1\nage 1", api.ErrTwice},
		{"case 2 1/1 's'\nage 'x'", api.OK},
		{"case 2 1/1 's'\nage -99999999999.9999", api.OK},
		{"case 2 1/1 's'\nsex #999", api.OK},
	} {
		l, line, fault := ReadData(f, x.text)
		refuses(t, x.text, x.want, l, line, fault)
		if x.want == api.OK && (len(l) != 1 || line != 0) {
			t.Error(x.text, len(l), line)
		}
	}
	many := ""
	for id := range api.MaxDataCases + 1 {
		many += fmt.Sprintf("case %d 1/1 ''\n", id+1)
	}
	l, line, fault := ReadData(f, many)
	refuses(t, "2001 cases", api.ErrLarge, l, line, fault)
	l, line, fault = ReadData(f, strings.TrimSuffix(many, "case 2001 1/1 ''\n"))
	refuses(t, "2000 cases", api.OK, l, line, fault)
	if len(l) != api.MaxDataCases {
		t.Error("2000 cases", len(l))
	}
	if _, fault := value.Read("-"); fault != api.OK {
		t.Error("Missing")
	}
}
