package edit

import (
	"math/rand"
	"reflect"
	"strings"
	"testing"

	"canvass/api"
)

const threeText = "field a 1,2,3 weight 1\nfield b 5,6 weight 2\nfield c 1,999 weight 1000\nedit e: a 1,2; b 5\nedit a: a 3; c 999\n"

func TestText(t *testing.T) {
	text, fault := Text(threeFields())
	is(t, "Text", show(text, fault), threeText+" 0")
	p := threeFields()
	p.Edits = p.Edits[:1]
	p.Edits[0].Sets = [][]int{{1, 2, 3}, {5, 6}, {1, 999}}
	text, fault = Text(p)
	is(t, "all sets full", show(text, fault), threeText[:strings.Index(threeText, "edit")]+"edit e:\n 0")
	p.Edits = nil
	text, fault = Text(p)
	is(t, "no edits", show(text, fault), threeText[:strings.Index(threeText, "edit")]+" 0")
}

func TestRead(t *testing.T) {
	head := "field a 1,2,3\nfield b 5,6 weight 2\nfield c 1,999 weight 1000\n"
	for _, text := range []string{
		threeText,
		head + "edit e: a 1,2; b 5\nedit a: a 3; c 999\n",
		"  field   a  1,2,3   weight   1  \nfield b 5,6  weight 2\n field c 1,999 weight 1000\n  edit  e:   a  1,2;   b   5  \nedit a:  a 3;  c 999 \n",
		"# field\n\n   \n   # edit x\n#\xff\r\n" + head + "\n#\nedit e: a 1,2; b 5\n # note\nedit a: a 3; c 999\n\n",
		head + "edit e: b 5; a 1,2\nedit a: c 999; a 3\n",
		head + "edit e: b 5; c 1,999; a 1,2\nedit a: c 999; b 5,6; a 3\n",
	} {
		p, line, fault := Read(text)
		if !reflect.DeepEqual(p, threeFields()) || line != 0 || fault != api.OK {
			t.Errorf("Read of %q: %v %d %d", text, p, line, fault)
		}
	}
	p, line, fault := Read("field edit 7\nfield weight 1\nfield field 2 weight 3\nedit edit:\nedit field: field 2; weight 1; edit 7\n")
	is(t, "words as names", show(p, line, fault), "{[{edit [7] 1} {weight [1] 1} {field [2] 3}] [{edit [[7] [1] [2]]} {field [[7] [1] [2]]}]} 0 0")
}

// TestReadFaults holds the errors of Read, and that the number of the line is told of three of them.
func TestReadFaults(t *testing.T) {
	const head = "field a 1,2\nfield b 1\n"
	for _, x := range []struct {
		text string
		line int
		want api.Fault
	}{
		// Lines that have no form.
		{"field\n", 1, 10}, {"field a\n", 1, 10}, {"field a 1 2\n", 1, 10}, {"field a 1 weight\n", 1, 10}, {"field a weight 1\n", 1, 10}, {"field a 1 weigh 1\n", 1, 10}, {"field a 1 weight 1 1\n", 1, 10}, {"field a 1 weight 1,2\n", 1, 10}, {"field a 1 weight x\n", 1, 10}, {"field a 1 weight -1\n", 1, 10},
		{"fields a 1\n", 1, 10}, {"Field a 1\n", 1, 10}, {"a\n", 1, 10}, {"field\ta 1\n", 1, 10}, {"\t\n", 1, 10}, {"field a 1\r\n", 1, 10}, {"\xff\n", 1, 10}, {"field a 1 # note\n", 1, 10}, {"field a 1 ;\n", 1, 10},
		{"field A 1\n", 1, 10}, {"field a-b 1\n", 1, 10}, {"field a\xc3\xa9 1\n", 1, 10}, {"field a: 1\n", 1, 10},
		{"field a 1,\n", 1, 10}, {"field a ,1\n", 1, 10}, {"field a 1,,2\n", 1, 10}, {"field a 1, 2\n", 1, 10}, {"field a 1;2\n", 1, 10}, {"field a 1 ,2\n", 1, 10}, {"field a x\n", 1, 10}, {"field a +1\n", 1, 10}, {"field a -1\n", 1, 10}, {"field a 1.0\n", 1, 10}, {"field a 01\n", 1, 10}, {"field a 00\n", 1, 10}, {"field a 1000000\n", 1, 10}, {"field a 99999999999999999999\n", 1, 10}, {"field a 1_0\n", 1, 10},
		{head + "edit\n", 3, 10}, {head + "edit e\n", 3, 10}, {head + "edit :\n", 3, 10}, {head + "edit e :\n", 3, 10}, {head + "edit e::\n", 3, 10}, {head + "edit E:\n", 3, 10}, {head + "edit e:a 1\n", 3, 10}, {head + "edit e a 1\n", 3, 10}, {head + "edit e: a\n", 3, 10}, {head + "edit e: a 1;\n", 3, 10}, {head + "edit e: a 1; b\n", 3, 10}, {head + "edit e: a 1 b 1\n", 3, 10}, {head + "edit e: a 1;b 1\n", 3, 10}, {head + "edit e: a 1 ; b 1\n", 3, 10}, {head + "edit e: a 1;; b 1\n", 3, 10}, {head + "edit e: a 1, b 1\n", 3, 10}, {head + "edit e: a ;\n", 3, 10}, {head + "edit e: A 1\n", 3, 10}, {head + "edit e: a 01\n", 3, 10}, {head + "edit e: ; a 1\n", 3, 10}, {head + "edit e: a 1,2,\n", 3, 10},
		// A field behind an edit; what is not ended.
		{head + "edit e:\nfield c 1\n", 4, 10}, {"edit e:\nfield c 1\n", 2, 10}, {"field a 1", 1, 10}, {head + "edit e:", 3, 10}, {head + " ", 3, 10}, {head + "\n#", 4, 10}, {" ", 1, 10},
		// The first line that has no form, also if others have other errors; lines without contents count.
		{"\n# note\nfield a 1\n\nfield\nfield\n", 5, 10}, {head + "edit e: x 1\nedit f: a 1; a 2\nfield\n", 5, 10},
		// Names of no field, and fields that are named twice, in the first line that has that.
		{head + "edit e: a 1; x 1\n", 3, 5}, {head + "\nedit e: a 1\nedit f: x 1\nedit g: y 1\n", 5, 5}, {head + "edit e: a 1; a 2\nedit f: x 1\n", 4, 5}, {"edit e: x 1; x 1\n", 1, 5},
		{head + "edit e: a 1; a 2\n", 3, 6}, {head + "edit e: a 1; b 1; a 1\n", 3, 6}, {head + "edit e:\n#\nedit f: b 1; b 1\nedit g: a 1; a 1\n", 5, 6},
		// Behind these the errors of CheckPlan, without a line.
		{"", 0, 9}, {"\n", 0, 9}, {"edit e:\n", 0, 9}, {"field 1a 1\n", 0, 5}, {"field and 1\n", 0, 5}, {"field _ 1\n", 0, 5}, {"field abcdefghijklmnopq 1\n", 0, 5}, {"field a 1\nfield a 1\n", 0, 6}, {"field a 0\n", 0, 1}, {"field a 1000\n", 0, 1}, {"field a 999999\n", 0, 1}, {"field a 2,1\n", 0, 7}, {"field a 1 weight 0\n", 0, 1}, {"field a 1 weight 1001\n", 0, 1}, {"field a 1 weight 1000\n", 0, 0},
		{"field a 1,2,3,4,5,6,7,8,9,10,11,12,13,14,15,16,17,18,19,20,21\n", 0, 2}, {head + "edit e:\nedit e:\n", 0, 6}, {head + "edit 1e:\n", 0, 5}, {head + "edit e: a 3\n", 0, 1}, {head + "edit e: a 2,1\n", 0, 7}, {head + "edit e: b 1; a 2,1\n", 0, 7}, {head + "edit e: b 2; a 2,1\n", 0, 7},
		{"field a 1\nfield a 1\nedit e: a 1; a 1\n", 3, 6}, {"field a 0\nedit e: b 1\n", 2, 5},
	} {
		p, line, fault := Read(x.text)
		if line != x.line {
			t.Errorf("Read of %q: line %d, not %d", x.text, line, x.line)
		}
		refuses(t, "Read of "+x.text, x.want, p, fault)
	}
}

// TestLongTexts holds the bound of texts, and that long ones are refused soon.
func TestLongTexts(t *testing.T) {
	const head = "field a 1\n"
	at := head + strings.Repeat("\n", api.MaxEditsText-len(head))
	if _, line, fault := Read(at); line != 0 || fault != api.OK {
		t.Error("60000 bytes", line, fault)
	}
	p, line, fault := Read(at + "\n")
	refuses(t, "60001 bytes", api.ErrLarge, p, line, fault)
	p, line, fault = Read("x" + at)
	refuses(t, "60001 bytes without a form", api.ErrLarge, p, line, fault)
	for text, want := range map[string]api.Fault{
		strings.Repeat("field a 1\n", 6000): api.ErrLarge, head + strings.Repeat("edit e:\n", 7000): api.ErrLarge,
		"field a " + strings.Repeat("1,", 29000) + "1\n": api.ErrLarge, head + "edit e: a " + strings.Repeat("1,", 29000) + "1\n": api.ErrOrder,
		strings.Repeat("field a 1\n", 3000) + strings.Repeat("edit e:\n", 3000): api.ErrLarge,
	} {
		p, line, fault := Read(text)
		refuses(t, text[:20], want, p, line, fault)
	}
}

// TestTextsByChance holds that Read makes the plan of its text again.
func TestTextsByChance(t *testing.T) {
	r := rand.New(rand.NewSource(1))
	for range 500 {
		p := randomPlan(r)
		text, fault := Text(p)
		again, line, readFault := Read(text)
		if fault != api.OK || readFault != api.OK || line != 0 || show(again) != show(p) {
			t.Fatal(text, fault, again, line, readFault)
		}
	}
}

// TestGreatestText holds that a plan whose text is about as long as one can be has one, which Read takes.
func TestGreatestText(t *testing.T) {
	p := api.EditPlan{Fields: manyFields(12, 2)}
	for i := range 4 {
		p.Fields[i].Codes = []int{997, 998, 999}
	}
	for i := range p.Fields {
		p.Fields[i].Name = "abcdefghijklmno" + string(rune('a'+i))
	}
	for n := range api.MaxEdits {
		e := api.Edit{Name: "abcdefghijklm_" + string(rune('a'+n%26)) + string(rune('a'+n/26))}
		for _, f := range p.Fields {
			e.Sets = append(e.Sets, f.Codes[:len(f.Codes)-1])
		}
		p.Edits = append(p.Edits, e)
	}
	p.Fields[11].Codes = p.Fields[11].Codes[:1]
	for n := range p.Edits {
		p.Edits[n].Sets[11] = []int{1}
	}
	text, fault := Text(p)
	again, line, readFault := Read(text)
	if fault != api.OK || readFault != api.OK || line != 0 || len(text) < 15000 || show(again) != show(p) {
		t.Error(len(text), fault, line, readFault)
	}
}
