package code

import (
	"math/rand"
	"reflect"
	"strings"
	"testing"

	"canvass/api"
)

func TestText(t *testing.T) {
	l := []api.Node{{Code: 1, Parent: 30, Title: "z"}, {Code: 2, Title: "a  b"}, {Code: 30, Title: "~"}, {Code: 45, Parent: 1, Title: "7 8"}, {Code: 50, Parent: 2, Title: "c"}, {Code: 999, Parent: 30, Title: "y"}}
	text, fault := Text(l)
	is(t, "Text", show(text, fault), "2 a  b\n  50 c\n30 ~\n  1 z\n    45 7 8\n  999 y\n 0")
	text, fault = Text(chain(8))
	is(t, "eight levels", show(text, fault), "1 t\n  2 t\n    3 t\n      4 t\n        5 t\n          6 t\n            7 t\n              8 t\n 0")
	text, fault = Text(nil)
	refuses(t, "Text of nothing", api.ErrNone, text, fault)
}

func TestRead(t *testing.T) {
	want := []api.Node{{Code: 5, Title: "plants"}, {Code: 6, Parent: 5, Title: "trees"}, {Code: 10, Title: "animals"}, {Code: 20, Parent: 10, Title: "dogs"}, {Code: 21, Parent: 20, Title: "poodles"}, {Code: 25, Parent: 20, Title: "terriers"}, {Code: 30, Parent: 10, Title: "cats"}}
	for _, text := range []string{
		beings,
		strings.TrimSuffix(beings, "\n"),
		"5 plants\n  6 trees\n10 animals\n  20 dogs\n    21 poodles\n    25 terriers\n  30 cats\n",
		"10 animals\n  30 cats\n  20 dogs\n    25 terriers\n    21 poodles\n5 plants\n  6 trees",
		"\n\n5 plants\n\n  6 trees\n\n\n10 animals\n  20 dogs\n\n    21 poodles\n    25 terriers\n  30 cats\n\n\n",
	} {
		l, line, fault := Read(text)
		if !reflect.DeepEqual(l, want) || line != 0 || fault != api.OK {
			t.Errorf("Read of %q: %v %d %d", text, l, line, fault)
		}
	}
	l, line, fault := Read("999 9  9 !\n  1 1 a\n")
	is(t, "titles with digits and blanks", show(l, line, fault), "[{1 999 1 a} {999 0 9  9 !}] 0 0")
}

// TestReadFaults holds the errors of Read, and that the number of the line is told of two of them.
func TestReadFaults(t *testing.T) {
	for _, x := range []struct {
		text string
		line int
		want api.Fault
	}{
		// Lines that do not have the form.
		{"a\n", 1, 10}, {"1\n", 1, 10}, {"1 \n", 1, 10}, {"1  a\n", 1, 10}, {"1 a \n", 1, 10}, {"1a\n", 1, 10}, {"1\ta\n", 1, 10}, {"1 a\tb\n", 1, 10}, {"1 a\r\n", 1, 10}, {"1 \x7f\n", 1, 10}, {"1 \xff\n", 1, 10}, {"1 \xc3\xa9\n", 1, 10},
		{"0 a\n", 1, 10}, {"01 a\n", 1, 10}, {"001 a\n", 1, 10}, {"1000 a\n", 1, 10}, {"+1 a\n", 1, 10}, {"-1 a\n", 1, 10}, {"1.0 a\n", 1, 10}, {"1_0 a\n", 1, 10}, {"x1 a\n", 1, 10}, {"99999999999999999999 a\n", 1, 10}, {"\xd9\xa1 a\n", 1, 10},
		{" \n", 1, 10}, {"  \n", 1, 10}, {"1 a\n \n", 2, 10}, {"1 a\n  \n", 2, 10}, {"\t\n", 1, 10}, {"\r\n", 1, 10}, {"1 a\n ", 2, 10}, {"#\n", 1, 10},
		// Blanks ahead.
		{" 1 a\n", 1, 10}, {"  1 a\n", 1, 10}, {"\n  1 a\n", 2, 10}, {"1 a\n 2 b\n", 2, 10}, {"1 a\n   2 b\n", 2, 10}, {"1 a\n    2 b\n", 2, 10}, {"1 a\n\n    2 b\n", 3, 10}, {"1 a\n  2 b\n      3 c\n", 3, 10}, {"1 a\n  2 b\n3 c\n    4 d\n", 4, 10}, {"1 a\n\t2 b\n", 2, 10},
		// The first of them; it comes ahead of codes that are there twice.
		{"\n1 a\nx\ny\n", 3, 10}, {"1 a\n1 a\n1 a\nx", 4, 10},
		{"1 a\n1 b\n", 2, 6}, {"1 a\n  1 b", 2, 6}, {"1 a\n\n\n2 b\n  3 c\n  2 c\n1 a\n", 6, 6}, {"1 a\n  2 b\n3 c\n  2 b\n", 4, 6},
		// Behind these the errors of CheckFrame, without a line.
		{"", 0, 9}, {"\n", 0, 9}, {"\n\n\n", 0, 9}, {"1 " + strings.Repeat("a", 61), 0, 2}, {"1 " + strings.Repeat("a", 60), 0, 0},
		{"1 " + strings.Repeat("a", 61) + "\n1 a", 2, 6}, {"1 " + strings.Repeat("a", 61) + "\nx", 2, 10},
	} {
		l, line, fault := Read(x.text)
		if line != x.line {
			t.Errorf("Read of %q: line %d, not %d", x.text, line, x.line)
		}
		refuses(t, "Read of "+x.text, x.want, l, fault)
	}
}

// stairs returns a text in which each line is a level below the one before.
func stairs(count int) string {
	var out strings.Builder
	for i := range count {
		out.WriteString(strings.Repeat("  ", i) + show(i+1, "t") + "\n")
	}
	return out.String()
}

// TestLongTexts holds the bounds of texts and of the frames that they have.
func TestLongTexts(t *testing.T) {
	at := "1 a\n" + strings.Repeat("\n", api.MaxFrameText-4)
	if _, line, fault := Read(at); line != 0 || fault != api.OK {
		t.Error("60000 bytes", line, fault)
	}
	l, line, fault := Read(at + "\n")
	refuses(t, "60001 bytes", api.ErrLarge, l, line, fault)
	l, line, fault = Read("x" + at)
	refuses(t, "60001 bytes without a form", api.ErrLarge, l, line, fault)
	_, line, fault = Read(stairs(8))
	is(t, "8 levels", show(line, fault), "0 0")
	for _, count := range []int{9, 240} {
		l, line, fault = Read(stairs(count))
		refuses(t, "too many levels", api.ErrLarge, l, line, fault)
	}
	for count, want := range map[int]api.Fault{600: api.OK, 601: api.ErrLarge, 999: api.ErrLarge} {
		var text strings.Builder
		for i := range count {
			text.WriteString(show(count-i, "t") + "\n")
		}
		l, line, fault = Read(text.String())
		refuses(t, show(count, "nodes"), want, l, line, fault)
	}
}

// TestGreatestText holds that the longest text that a frame can have is read again. It is shorter than MaxFrameText.
func TestGreatestText(t *testing.T) {
	title := strings.Repeat("x", api.MaxTitle)
	var l []api.Node
	for i := range api.MaxNodes {
		l = append(l, api.Node{Code: 400 + i, Parent: 400 + min(i, api.MaxLevel-1) - 1, Title: title})
	}
	l[0].Parent = 0
	text, fault := Text(l)
	again, line, readFault := Read(text)
	if fault != api.OK || readFault != api.OK || line != 0 || !reflect.DeepEqual(l, again) || len(text) < 47000 {
		t.Error(len(text), fault, line, readFault)
	}
}

// textAgain makes the text of a frame from its nodes one by one.
func textAgain(l []api.Node, parent int, blanks string) string {
	out := ""
	for _, n := range l {
		if n.Parent == parent {
			out += blanks + show(n.Code, n.Title) + "\n" + textAgain(l, n.Code, blanks+"  ")
		}
	}
	return out
}

// TestTextsByChance holds texts, and that Read makes the frame of its text again.
func TestTextsByChance(t *testing.T) {
	r := rand.New(rand.NewSource(1))
	for range 1000 {
		l := randomNodes(r)
		text, fault := Text(l)
		is(t, "Text", show(text, fault), show(textAgain(l, 0, ""), 0))
		again, line, readFault := Read(text)
		if readFault != api.OK || line != 0 || !reflect.DeepEqual(again, l) {
			t.Fatal(text, again, line, readFault)
		}
	}
}
