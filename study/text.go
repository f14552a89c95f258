package study

import (
	"strconv"
	"strings"

	"canvass/api"
	"canvass/value"
)

// caseWord begins the first line of each case in the text of a data set.
const caseWord = "case"

// dataText is DataText behind the error of the form (T8).
func (s *study) dataText(l []api.Datum) (string, api.Fault) {
	if fault := s.checkData(l); fault != api.OK {
		return "", fault
	}
	var out strings.Builder
	for _, d := range l {
		words := []string{caseWord, strconv.Itoa(d.Id), d.Weight.Num + "/" + d.Weight.Den, shown(api.Value{Kind: api.Text, S: d.Seed})}
		out.WriteString(strings.Join(words, " ") + "\n")
		for _, g := range d.Given {
			out.WriteString(keyText(g.Key) + " " + shown(g.Value) + "\n")
		}
	}
	if out.Len() > api.MaxDataText {
		return "", api.ErrLarge
	}
	return out.String(), api.OK
}

// shown returns the text of a sound value.
func shown(v api.Value) string {
	text, _ := value.Show(v)
	return text
}

// keyText returns the text of a key, as age.1.
func keyText(k api.Key) string {
	words := []string{k.Name}
	for _, n := range k.Row {
		words = append(words, strconv.Itoa(n))
	}
	return strings.Join(words, ".")
}

// keyOf returns the key of a text, and reports whether it is that of one.
func keyOf(text string) (api.Key, bool) {
	words := strings.Split(text, ".")
	k := api.Key{Name: words[0]}
	for _, word := range words[1:] {
		n, isNumber := numberOf(word)
		if !isNumber {
			return api.Key{}, false
		}
		k.Row = append(k.Row, n)
	}
	return k, k.Name != "" && strings.Trim(k.Name, "abcdefghijklmnopqrstuvwxyz0123456789_") == ""
}

// numberOf returns the number that 1 to 9 digits mean, without a needless 0 ahead.
func numberOf(word string) (int, bool) {
	n, err := strconv.Atoi(word)
	return n, err == nil && len(word) <= 9 && n >= 0 && strconv.Itoa(n) == word
}

// linesIn returns the lines of a text, of which the last one can lack its end.
func linesIn(text string) []string {
	lines := strings.Split(text, "\n")
	if last := len(lines) - 1; lines[last] == "" {
		return lines[:last]
	}
	return lines
}

// readData returns the data set of a text, whatever it is; or the number of the first line that is not one of such a text, and false.
func readData(text string) ([]api.Datum, int, bool) {
	var out []api.Datum
	for n, line := range linesIn(text) {
		if d, isCase := caseOf(line); isCase {
			out = append(out, d)
			continue
		}
		g, isGiven := givenOf(line)
		if !isGiven || len(out) == 0 {
			return nil, n, false
		}
		d := &out[len(out)-1]
		d.Given = append(d.Given, g)
	}
	return out, 0, true
}

// caseOf reads the first line of a case.
func caseOf(line string) (api.Datum, bool) {
	words := strings.SplitN(line, " ", 4)
	if len(words) < 4 || words[0] != caseWord {
		return api.Datum{}, false
	}
	id, isNumber := numberOf(words[1])
	num, den, _ := strings.Cut(words[2], "/")
	d := api.Datum{Id: id, Weight: api.Ratio{Num: num, Den: den}}
	seed, fault := value.Read(words[3])
	d.Seed = seed.S
	return d, isNumber && value.CheckRatio(d.Weight) == api.OK && fault == api.OK && seed.Kind == api.Text
}

// givenOf reads the line of an answer.
func givenOf(line string) (api.Given, bool) {
	name, text, _ := strings.Cut(line, " ")
	k, isKey := keyOf(name)
	v, fault := value.Read(text)
	return api.Given{Key: k, Value: v}, isKey && fault == api.OK && v.Kind != api.Bool
}
