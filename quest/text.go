package quest

import (
	"strconv"
	"strings"

	"canvass/api"
	"canvass/value"
)

// Text writes a form (F6).
func Text(f api.Form) (string, api.Fault) {
	if fault := Check(f); fault != api.OK {
		return "", fault
	}
	w := &writer{}
	w.line(0, "form", f.Name, strconv.Itoa(f.Version))
	w.line(0, append([]string{"languages"}, f.Languages...)...)
	for _, list := range f.Lists {
		w.list(list)
	}
	w.items(f.Items, 0)
	if w.text.Len() > api.MaxForm {
		return "", api.ErrLarge
	}
	return w.text.String(), api.OK
}

// The words of the text of a form that both writing and reading need in tables.

// itemWords are the words of items.
var itemWords = [...]string{
	api.ItemPage: "page", api.ItemBlock: "block", api.ItemLoop: "loop", api.ItemQuestion: "question", api.ItemCompute: "compute", api.ItemEnd: "end",
}

// answerWords are the words of answers.
var answerWords = [...]string{
	api.Number: "number", api.Text: "text", api.Choice: "choice", api.Choices: "choices", api.Day: "day",
}

// writer writes lines, at a depth.
type writer struct{ text strings.Builder }

func (w *writer) line(depth int, words ...string) {
	w.text.WriteString(strings.Repeat("  ", depth) + strings.Join(words, " ") + "\n")
}

// exprs writes a line for each expression, of which there are none or one.
func (w *writer) exprs(depth int, word string, l []api.Expr) {
	for _, e := range l {
		w.line(depth, word, printed(e))
	}
}

// phrase writes a line for a phrase that has texts.
func (w *writer) phrase(depth int, phrase api.Phrase) {
	if len(phrase) > 0 {
		w.line(depth, append([]string{"text"}, quotedTexts(phrase)...)...)
	}
}

func (w *writer) list(list api.List) {
	w.line(0, "list", list.Name)
	for _, option := range list.Options {
		words := []string{"option", strconv.Itoa(option.Code)}
		words = appendIf(words, option.Alone, "alone")
		words = appendIf(words, option.Last, "last")
		w.line(1, append(words, quotedTexts(option.Phrase)...)...)
	}
}

func (w *writer) items(items []api.Item, depth int) {
	for _, item := range items {
		w.line(depth, wordsOfItem(item)...)
		w.exprs(depth+1, "if", item.If)
		w.phrase(depth+1, item.Phrase)
		w.exprs(depth+1, "only", item.Answer.Only)
		for _, check := range item.Answer.Checks {
			word := "check"
			if check.Soft {
				word = "soft"
			}
			w.line(depth+1, word, printed(check.Must))
			w.phrase(depth+2, check.Phrase)
		}
		w.items(item.Items, depth+1)
	}
}

func wordsOfItem(item api.Item) []string {
	words := []string{itemWords[item.Kind], item.Name}
	switch item.Kind {
	case api.ItemBlock:
		return appendIf(words, item.Shuffle, "shuffle")
	case api.ItemLoop:
		for _, count := range item.Count {
			return append(words, "count", printed(count))
		}
		return append(words, "over", item.Over)
	case api.ItemQuestion:
		return append(words, wordsOfAnswer(item.Answer)...)
	case api.ItemCompute:
		return append(words, "=", printed(item.Compute[0]))
	}
	return words
}

func wordsOfAnswer(a api.Answer) []string {
	words := []string{answerWords[a.Kind]}
	switch a.Kind {
	case api.Number, api.Day:
		words = append(words, shown(a.Kind, a.Low), shown(a.Kind, a.High))
	case api.Text:
		words = append(words, strconv.Itoa(a.Low), strconv.Itoa(a.High))
	case api.Choice:
		words = append(words, a.List)
	case api.Choices:
		words = append(words, a.List, strconv.Itoa(a.Low), strconv.Itoa(a.High))
	}
	words = appendIf(words, a.Places != 0, "places", strconv.Itoa(a.Places))
	words = appendIf(words, a.Shuffle, "shuffle")
	words = appendIf(words, a.Need, "need")
	words = appendIf(words, len(a.Reasons) > 0, "reasons")
	for _, reason := range a.Reasons {
		words = append(words, shown(api.Special, reason))
	}
	return words
}

func appendIf(words []string, isSet bool, more ...string) []string {
	if !isSet {
		return words
	}
	return append(words, more...)
}

// shown returns the text of a value that only has an N.
func shown(kind, n int) string {
	text, _ := value.Show(api.Value{Kind: kind, N: n})
	return text
}

// printed returns the text of an expression, of which value.Print has no error.
func printed(e api.Expr) string {
	text, _ := value.Print(e)
	return text
}

func quotedTexts(phrase api.Phrase) []string {
	texts := make([]string, len(phrase))
	for i, text := range phrase {
		texts[i] = quoted(text)
	}
	return texts
}

func quoted(text string) string {
	return `"` + strings.ReplaceAll(strings.ReplaceAll(text, `\`, `\\`), `"`, `\"`) + `"`
}
