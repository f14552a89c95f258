package study

import (
	"slices"

	"canvass/api"
	"canvass/quest"
)

// book is the cells of a form.
type book struct {
	list  []*variable // in the order of items
	named map[string]*variable
}

// variable is a cell of a form, with its item, and the options of the list of a question that has one.
type variable struct {
	api.Cell
	item    api.Item
	options []api.Option
}

// bookOf returns the book of a form, or the error of quest.Check for it.
func bookOf(f api.Form) (*book, api.Fault) {
	cells, _, fault := quest.Cells(f)
	if fault != api.OK {
		return nil, fault
	}
	return bookWith(f, cells), api.OK
}

// booksOf returns the books of two forms.
func booksOf(a, b api.Form) (*book, *book, api.Fault) {
	first, fault := bookOf(a)
	if fault != api.OK {
		return nil, nil, fault
	}
	second, fault := bookOf(b)
	if fault != api.OK {
		return nil, nil, fault
	}
	return first, second, api.OK
}

// bookWith returns the book of a form that has some cells.
func bookWith(f api.Form, cells []api.Cell) *book {
	lists := map[string][]api.Option{}
	for _, list := range f.Lists {
		lists[list.Name] = list.Options
	}
	items := map[string]api.Item{}
	var gather func(l []api.Item)
	gather = func(l []api.Item) {
		for _, item := range l {
			items[item.Name] = item
			gather(item.Items)
		}
	}
	gather(f.Items)
	b := &book{named: map[string]*variable{}}
	for _, cell := range cells {
		item := items[cell.Name]
		x := &variable{cell, item, lists[item.Answer.List]}
		b.list, b.named[cell.Name] = append(b.list, x), x
	}
	return b
}

// question returns the question with a name; nil: there is none.
func (b *book) question(name string) *variable {
	x := b.named[name]
	if x == nil || !x.isQuestion() {
		return nil
	}
	return x
}

func (x *variable) isQuestion() bool { return x.item.Kind == api.ItemQuestion }

// isCoded reports whether values consist of codes.
func (x *variable) isCoded() bool { return x.Kind == api.Choice || x.Kind == api.Choices }

// option returns the option with a code, and whether there is one.
func (x *variable) option(code int) (api.Option, bool) {
	n := slices.IndexFunc(x.options, func(o api.Option) bool { return o.Code == code })
	if n < 0 {
		return api.Option{}, false
	}
	return x.options[n], true
}

// variables returns the codebook in a language (T7).
func (b *book) variables(language int) []api.Variable {
	var out []api.Variable
	for _, x := range b.list {
		v := api.Variable{Name: x.Name, Kind: x.Kind, Loops: slices.Clone(x.Loops), Phrase: textIn(x.item.Phrase, language)}
		for _, o := range x.options {
			v.Codes = append(v.Codes, api.CodeTitle{Code: o.Code, Title: textIn(o.Phrase, language)})
		}
		out = append(out, v)
	}
	return out
}

// textIn returns the text of a phrase in a language; it is empty if the phrase has no texts.
func textIn(phrase api.Phrase, language int) string {
	if len(phrase) == 0 {
		return ""
	}
	return phrase[language]
}
