package code

import (
	"strings"

	"canvass/api"
)

// checkAsked has the errors of a coder and of a text that it is asked for (C3).
func checkAsked(c api.Coder, text string) api.Fault {
	if fault := CheckCoder(c); fault != api.OK {
		return fault
	}
	if len(text) > api.MaxVerbatim {
		return api.ErrLarge
	}
	return api.OK
}

// checkCoder has the errors of a coder with this frame behind those of the frame.
func (f frame) checkCoder(c api.Coder) api.Fault {
	if len(c.Stops) > api.MaxWords || len(c.Endings) > api.MaxEndings || len(c.Rules) > api.MaxRules || len(c.Examples) > api.MaxExamples {
		return api.ErrLarge
	}
	if fault := checkWords(c.Stops); fault != api.OK {
		return fault
	}
	for _, e := range c.Endings {
		if !isWord(e.From) || e.To != "" && !isWord(e.To) {
			return api.ErrName
		}
	}
	for _, r := range c.Rules {
		if fault := f.checkRule(r); fault != api.OK {
			return fault
		}
	}
	for _, e := range c.Examples {
		if len(e.Text) > api.MaxVerbatim {
			return api.ErrLarge
		}
		if !f.has(e.Code) {
			return api.ErrName
		}
	}
	return api.OK
}

func (f frame) checkRule(r api.CodeRule) api.Fault {
	switch {
	case len(r.With) == 0:
		return api.ErrNone
	case len(r.With) > api.MaxWords || len(r.Without) > api.MaxWords:
		return api.ErrLarge
	}
	if fault := checkWords(r.With); fault != api.OK {
		return fault
	}
	if fault := checkWords(r.Without); fault != api.OK {
		return fault
	}
	if !f.has(r.Code) {
		return api.ErrName
	}
	return api.OK
}

// checkWords has the errors of a list of words, which is increasing.
func checkWords(l []string) api.Fault {
	for i, word := range l {
		if !isWord(word) {
			return api.ErrName
		}
		if i > 0 && word <= l[i-1] {
			return api.ErrOrder
		}
	}
	return api.OK
}

func isWord(text string) bool {
	return text != "" && len(text) <= api.MaxWord && !strings.ContainsFunc(text, func(r rune) bool { return !isWordByte(r) })
}

// isWordByte reports whether a character is a to z or 0 to 9.
func isWordByte(r rune) bool {
	return r >= 'a' && r <= 'z' || r >= '0' && r <= '9'
}

// stemmer makes words of texts.
type stemmer struct {
	stops   map[string]bool
	endings []api.Ending
}

func stemmerOf(c api.Coder) stemmer {
	stops := map[string]bool{}
	for _, word := range c.Stops {
		stops[word] = true
	}
	return stemmer{stops, c.Endings}
}

// words returns the words of a text (C4).
func (s stemmer) words(text string) []string {
	var out []string
	known := map[string]bool{}
	divides := func(r rune) bool { return !isWordByte(r) && (r < 'A' || r > 'Z') }
	for row := range strings.FieldsFuncSeq(text, divides) {
		word := strings.ToLower(row[:min(len(row), api.MaxWord)])
		if s.stops[word] {
			continue
		}
		word = s.stem(word)
		if !known[word] {
			known[word] = true
			out = append(out, word)
		}
		if len(out) == api.MaxWords {
			break
		}
	}
	return out
}

// leastStem is how many bytes a word has at least ahead of an ending.
const leastStem = 3

// stem puts another ending for the first one that a word has.
func (s stemmer) stem(word string) string {
	for _, e := range s.endings {
		ahead, has := strings.CutSuffix(word, e.From)
		if has && len(ahead) >= leastStem {
			return ahead + e.To
		}
	}
	return word
}
