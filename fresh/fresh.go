// Package fresh makes copies of what package api has. A copy shares no memory with its original, and no two parts of it share any.
package fresh

import (
	"slices"

	"canvass/api"
)

// List copies a list whose elements have memory of their own.
func List[T any](list []T, copyOf func(T) T) []T {
	if list == nil {
		return nil
	}
	out := make([]T, len(list))
	for i, element := range list {
		out[i] = copyOf(element)
	}
	return out
}

func Value(v api.Value) api.Value {
	v.Set = slices.Clone(v.Set)
	return v
}

func Expr(e api.Expr) api.Expr {
	e.Value, e.Args = Value(e.Value), List(e.Args, Expr)
	return e
}

func Cell(c api.Cell) api.Cell {
	c.Loops = slices.Clone(c.Loops)
	return c
}

func Nest(n api.Nest) api.Nest {
	n.Loops = slices.Clone(n.Loops)
	return n
}

func Bound(b api.Bound) api.Bound {
	b.Row, b.Value = slices.Clone(b.Row), Value(b.Value)
	return b
}

func Rows(r api.Rows) api.Rows {
	r.Row, r.Numbers = slices.Clone(r.Row), slices.Clone(r.Numbers)
	return r
}

func Scene(s api.Scene) api.Scene {
	return api.Scene{Cells: List(s.Cells, Cell), Loops: List(s.Loops, Nest), Bounds: List(s.Bounds, Bound), Rows: List(s.Rows, Rows)}
}

func Form(f api.Form) api.Form {
	f.Languages, f.Lists, f.Items = slices.Clone(f.Languages), List(f.Lists, Options), List(f.Items, Item)
	return f
}

// Options copies a list of options.
func Options(l api.List) api.List {
	l.Options = List(l.Options, func(o api.Option) api.Option {
		o.Phrase = slices.Clone(o.Phrase)
		return o
	})
	return l
}

func Item(i api.Item) api.Item {
	i.If, i.Phrase, i.Items = List(i.If, Expr), slices.Clone(i.Phrase), List(i.Items, Item)
	i.Count, i.Answer, i.Compute = List(i.Count, Expr), Answer(i.Answer), List(i.Compute, Expr)
	return i
}

func Answer(a api.Answer) api.Answer {
	a.Only, a.Reasons, a.Checks = List(a.Only, Expr), slices.Clone(a.Reasons), List(a.Checks, Rule)
	return a
}

func Rule(r api.Rule) api.Rule {
	r.Must, r.Phrase = Expr(r.Must), slices.Clone(r.Phrase)
	return r
}

func Key(k api.Key) api.Key {
	k.Row = slices.Clone(k.Row)
	return k
}

func Given(g api.Given) api.Given {
	g.Key, g.Value = Key(g.Key), Value(g.Value)
	return g
}

func Asked(a api.Asked) api.Asked {
	a.Key, a.Page, a.Value = Key(a.Key), Key(a.Page), Value(a.Value)
	a.Soft, a.Offered = slices.Clone(a.Soft), slices.Clone(a.Offered)
	return a
}

func Route(r api.Route) api.Route {
	r.Asked, r.Pages, r.Rows = List(r.Asked, Asked), List(r.Pages, Key), List(r.Rows, Rows)
	return r
}

func Step(s api.Step) api.Step {
	s.Given, s.Page = List(s.Given, Given), Key(s.Page)
	return s
}

func Event(e api.Event) api.Event {
	e.Given = List(e.Given, Given)
	return e
}
