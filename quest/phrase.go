package quest

import (
	"slices"
	"strconv"
	"strings"

	"canvass/api"
	"canvass/fresh"
	"canvass/value"
)

// part is a piece of the text of a phrase: a text as it reads, or a pipe (F8).
type part struct {
	isPipe bool
	pipe   api.Expr
	text   string
}

// partsOf divides a text into its pieces, and reports whether it is right.
func partsOf(text string) ([]part, bool) {
	var parts []part
	for text != "" {
		i := strings.IndexAny(text, "{}")
		switch {
		case i < 0:
			return append(parts, part{text: text}), true
		case i > 0:
			parts, text = append(parts, part{text: text[:i]}), text[i:]
		case strings.HasPrefix(text, "{{") || strings.HasPrefix(text, "}}"):
			parts, text = append(parts, part{text: text[:1]}), text[2:]
		default:
			end := endOfPipe(text)
			if end < 0 {
				return nil, false
			}
			e, _, fault := value.Parse(text[1:end])
			if fault != api.OK {
				return nil, false
			}
			parts, text = append(parts, part{isPipe: true, pipe: e}), text[end+1:]
		}
	}
	return parts, true
}

// endOfPipe returns where the brace is that ends the pipe with which a text begins; -1 if there is none.
func endOfPipe(text string) int {
	if text[0] != '{' {
		return -1
	}
	isInText := false
	for i := 1; i < len(text); i++ {
		switch {
		case text[i] == '\'':
			isInText = !isInText
		case isInText:
		case text[i] == '}':
			return i
		case text[i] == '{':
			return -1
		}
	}
	return -1
}

// Spoken returns a phrase in a language, as it reads in a scene for a row (F8).
func Spoken(f api.Form, where string, language int, s api.Scene, row []int) (string, api.Fault) {
	p, fault := planOf(f)
	if fault != api.OK {
		return "", fault
	}
	phrase, isPlace := phraseAt(f, where)
	if !isPlace {
		return "", api.ErrNone
	}
	if !hasLanguage(f, language) {
		return "", api.ErrRange
	}
	view, fault := p.viewOf(s)
	if fault != api.OK {
		return "", fault
	}
	var loops []string
	name, _, _ := strings.Cut(where, "/")
	if x := p.named[name]; x != nil {
		loops = x.loops
	}
	if fault := checkRow(row, loops); fault != api.OK {
		return "", fault
	}
	if len(phrase) == 0 {
		return "", api.OK
	}
	return p.spoken(phrase[language], language, func(e api.Expr) (api.Value, api.Fault) { return view.Eval(e, loops, row) })
}

func hasLanguage(f api.Form, language int) bool {
	return language >= 0 && language < len(f.Languages)
}

// spoken returns a text with what its pipes read like.
func (p *plan) spoken(text string, language int, eval func(e api.Expr) (api.Value, api.Fault)) (string, api.Fault) {
	parts, _ := partsOf(text)
	out := ""
	for _, part := range parts {
		if !part.isPipe {
			out += part.text
			continue
		}
		v, fault := eval(part.pipe)
		if fault != api.OK {
			return "", fault
		}
		out += p.spokenValue(part.pipe, v, language)
	}
	if len(out) > 10*api.MaxPhrase {
		return "", api.ErrLarge
	}
	return out, api.OK
}

// spokenValue returns what the value of an expression reads like.
func (p *plan) spokenValue(e api.Expr, v api.Value, language int) string {
	switch v.Kind {
	case api.Missing:
		return ""
	case api.Text:
		return v.S
	case api.Choice:
		return p.spokenCode(e, v.N, language)
	case api.Choices:
		texts := make([]string, len(v.Set))
		for i, code := range v.Set {
			texts[i] = p.spokenCode(e, code, language)
		}
		return strings.Join(texts, ", ")
	case api.Bool:
		if v.N == 1 {
			return "yes"
		}
		return "no"
	}
	text, _ := value.Show(v)
	return strings.TrimPrefix(text, "@")
}

// spokenCode returns what a code in the value of an expression reads like.
func (p *plan) spokenCode(e api.Expr, code, language int) string {
	if e.Kind == api.XAnswer {
		// A computed value has the zero Answer, and there is no list without a name.
		for _, option := range p.lists[p.named[e.Name].item.Answer.List].Options {
			if option.Code == code && len(option.Phrase) == 0 {
				return ""
			}
			if option.Code == code {
				return option.Phrase[language]
			}
		}
	}
	return strconv.Itoa(code)
}

// eachPhrase goes through the phrases of a form, with their places, in the order of F9.
func eachPhrase(f api.Form, do func(where string, phrase *api.Phrase)) {
	for _, list := range f.Lists {
		for i := range list.Options {
			option := &list.Options[i]
			do(":"+list.Name+"/"+strconv.Itoa(option.Code), &option.Phrase)
		}
	}
	eachPhraseOf(f.Items, do)
}

func eachPhraseOf(items []api.Item, do func(where string, phrase *api.Phrase)) {
	for i := range items {
		item := &items[i]
		if item.Kind == api.ItemPage || item.Kind == api.ItemQuestion || item.Kind == api.ItemEnd {
			do(item.Name, &item.Phrase)
		}
		for n := range item.Answer.Checks {
			do(item.Name+"/check/"+strconv.Itoa(n), &item.Answer.Checks[n].Phrase)
		}
		eachPhraseOf(item.Items, do)
	}
}

// phraseAt returns the phrase at a place, and whether there is such a place.
func phraseAt(f api.Form, where string) (phrase api.Phrase, isPlace bool) {
	eachPhrase(f, func(place string, p *api.Phrase) {
		if place == where {
			phrase, isPlace = *p, true
		}
	})
	return phrase, isPlace
}

// Entries returns all texts of a form in a language (F9).
func Entries(f api.Form, language int) ([]api.Entry, api.Fault) {
	if fault := Check(f); fault != api.OK {
		return nil, fault
	}
	if !hasLanguage(f, language) {
		return nil, api.ErrRange
	}
	var entries []api.Entry
	eachPhrase(f, func(where string, phrase *api.Phrase) {
		if len(*phrase) > 0 {
			entries = append(entries, api.Entry{Where: where, Text: (*phrase)[language]})
		}
	})
	return entries, api.OK
}

// Translated returns a form with a further language, or with other texts for one that it has (F9).
func Translated(f api.Form, language string, l []api.Entry) (api.Form, api.Fault) {
	if fault := Check(f); fault != api.OK {
		return api.Form{}, fault
	}
	if !value.IsName(language) {
		return api.Form{}, api.ErrName
	}
	texts, fault := textsOf(f, l)
	if fault != api.OK {
		return api.Form{}, fault
	}
	out := fresh.Form(f)
	n := slices.Index(f.Languages, language)
	isNew := n < 0
	if isNew {
		out.Languages = append(out.Languages, language)
	}
	eachPhrase(out, func(where string, phrase *api.Phrase) {
		switch {
		case len(*phrase) == 0:
		case isNew:
			*phrase = append(*phrase, texts[where])
		default:
			(*phrase)[n] = texts[where]
		}
	})
	if fault := Check(out); fault != api.OK {
		return api.Form{}, fault
	}
	return out, api.OK
}

// textsOf returns the texts of entries by their places, which must be just those of all phrases with texts.
func textsOf(f api.Form, l []api.Entry) (map[string]string, api.Fault) {
	needed := map[string]bool{}
	eachPhrase(f, func(where string, phrase *api.Phrase) {
		if len(*phrase) > 0 {
			needed[where] = true
		}
	})
	texts := map[string]string{}
	for _, entry := range l {
		if _, twice := texts[entry.Where]; twice {
			return nil, api.ErrTwice
		}
		if !needed[entry.Where] {
			return nil, api.ErrNone
		}
		texts[entry.Where] = entry.Text
	}
	if len(texts) < len(needed) {
		return nil, api.ErrMissing
	}
	return texts, api.OK
}
