package edit

import (
	"slices"
	"strconv"
	"strings"

	"canvass/api"
)

// written is an edit as a text has it, in the line with this number: codes for some fields, by their names.
type written struct {
	line int
	name string
	sets []named
}

// named is codes for the field with a name.
type named struct {
	name  string
	codes []int
}

// script is what a text has.
type script struct {
	fields []api.EditField
	edits  []written
}

// Read returns the plan of a text (E2).
func Read(text string) (api.EditPlan, int, api.Fault) {
	if len(text) > api.MaxEditsText {
		return api.EditPlan{}, 0, api.ErrLarge
	}
	s, bad := scan(text)
	if bad > 0 {
		return api.EditPlan{}, bad, api.ErrSyntax
	}
	numbers := map[string]int{}
	for i, f := range s.fields {
		numbers[f.Name] = i
	}
	if line := s.lineOf(func(e written) bool { return namesNone(e, numbers) }); line > 0 {
		return api.EditPlan{}, line, api.ErrName
	}
	if line := s.lineOf(namesTwice); line > 0 {
		return api.EditPlan{}, line, api.ErrTwice
	}
	p := api.EditPlan{Fields: s.fields}
	// The errors of fields come ahead of those of edits, and behind them there are few fields, so that edits have few sets.
	if fault := CheckPlan(p); fault != api.OK {
		return api.EditPlan{}, 0, fault
	}
	for _, e := range s.edits {
		p.Edits = append(p.Edits, e.edit(s.fields, numbers))
	}
	if fault := CheckPlan(p); fault != api.OK {
		return api.EditPlan{}, 0, fault
	}
	return p, 0, api.OK
}

// lineOf returns the number of the line of the first edit that is wrong; 0 if there is none.
func (s *script) lineOf(isWrong func(e written) bool) int {
	if n := slices.IndexFunc(s.edits, isWrong); n >= 0 {
		return s.edits[n].line
	}
	return 0
}

func namesNone(e written, numbers map[string]int) bool {
	return slices.ContainsFunc(e.sets, func(s named) bool {
		_, is := numbers[s.name]
		return !is
	})
}

func namesTwice(e written) bool {
	names := map[string]bool{}
	for _, s := range e.sets {
		if names[s.name] {
			return true
		}
		names[s.name] = true
	}
	return false
}

// edit returns the edit, whose sets are full for fields that it does not name.
func (e written) edit(fields []api.EditField, numbers map[string]int) api.Edit {
	out := api.Edit{Name: e.name, Sets: make([][]int, len(fields))}
	for _, s := range e.sets {
		out.Sets[numbers[s.name]] = s.codes
	}
	for i, f := range fields {
		if out.Sets[i] == nil {
			out.Sets[i] = slices.Clone(f.Codes)
		}
	}
	return out
}

// scan returns what a text has, or the number of its first line, from 1 on, that does not have the form of one; otherwise 0.
func scan(text string) (*script, int) {
	s := &script{}
	for number := 1; text != ""; number++ {
		line, rest, isEnded := strings.Cut(text, "\n")
		if !isEnded || !s.take(line, number) {
			return nil, number
		}
		text = rest
	}
	return s, 0
}

// take takes a line, and reports whether it has the form of one.
func (s *script) take(line string, number int) bool {
	words := strings.FieldsFunc(line, func(r rune) bool { return r == ' ' })
	switch {
	case len(words) == 0 || words[0][0] == '#':
		return true
	case words[0] == "field":
		return len(s.edits) == 0 && s.takeField(words[1:])
	case words[0] == "edit":
		return s.takeEdit(words[1:], number)
	}
	return false
}

// takeField takes the words behind `field`.
func (s *script) takeField(words []string) bool {
	if len(words) == 2 {
		words = append(words, "weight", "1")
	}
	if len(words) != 4 || words[2] != "weight" || !isRow(words[0]) {
		return false
	}
	codes, areCodes := codesOf(words[1])
	weight, isNumber := numberOf(words[3])
	s.fields = append(s.fields, api.EditField{Name: words[0], Codes: codes, Weight: weight})
	return areCodes && isNumber
}

// takeEdit takes the words behind `edit`.
func (s *script) takeEdit(words []string, line int) bool {
	if len(words)%2 == 0 {
		return false
	}
	name, isEnded := strings.CutSuffix(words[0], ":")
	if !isEnded || !isRow(name) {
		return false
	}
	e := written{line: line, name: name}
	for words = words[1:]; len(words) > 0; words = words[2:] {
		text, isFollowed := strings.CutSuffix(words[1], ";")
		codes, areCodes := codesOf(text)
		if !isRow(words[0]) || !areCodes || isFollowed != (len(words) > 2) {
			return false
		}
		e.sets = append(e.sets, named{words[0], codes})
	}
	s.edits = append(s.edits, e)
	return true
}

// isRow reports whether a word is one or more bytes a to z, 0 to 9 and underscores.
func isRow(word string) bool {
	return word != "" && strings.Trim(word, "abcdefghijklmnopqrstuvwxyz0123456789_") == ""
}

// codesOf returns the numbers that a word has, with commas between them.
func codesOf(word string) ([]int, bool) {
	var out []int
	for text := range strings.SplitSeq(word, ",") {
		n, isNumber := numberOf(text)
		if !isNumber {
			return nil, false
		}
		out = append(out, n)
	}
	return out, true
}

// numberOf returns the number that 1 to 6 digits mean, without a needless 0 ahead.
func numberOf(digits string) (int, bool) {
	n, err := strconv.Atoi(digits)
	return n, err == nil && len(digits) <= 6 && strconv.Itoa(n) == digits && n >= 0
}
