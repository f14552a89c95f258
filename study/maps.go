package study

import (
	"maps"
	"slices"

	"canvass/api"
)

// change is an old and a new version of a form, and the maps between them.
type change struct {
	from, to *book
	maps     map[string]api.Map // by From
}

// changeOf returns a change, or the error of CheckMaps (T9).
func changeOf(a, b api.Form, maps []api.Map) (*change, api.Fault) {
	from, to, fault := booksOf(a, b)
	if fault != api.OK {
		return nil, fault
	}
	if len(maps) > api.MaxMaps {
		return nil, api.ErrLarge
	}
	c := &change{from, to, map[string]api.Map{}}
	reached := map[string]bool{}
	last := ""
	for _, m := range maps {
		if fault := c.checkMap(m, last, reached[m.To]); fault != api.OK {
			return nil, fault
		}
		c.maps[m.From], reached[m.To], last = m, true, m.From
	}
	for _, m := range maps {
		if _, isMapped := c.maps[m.To]; !isMapped && from.question(m.To) != nil {
			return nil, api.ErrConflict
		}
	}
	return c, api.OK
}

// checkMap has the errors of a map behind another one, whose From is last, where isReached tells whether an earlier one has its To.
func (c *change) checkMap(m api.Map, last string, isReached bool) api.Fault {
	x, y := c.from.question(m.From), c.to.question(m.To)
	switch {
	case x == nil || y == nil:
		return api.ErrName
	case m.From <= last:
		return api.ErrOrder
	case isReached:
		return api.ErrTwice
	case len(m.Codes) > 0 && !(x.isCoded() && y.isCoded()):
		return api.ErrType
	}
	for i, code := range m.Codes {
		_, isOld := x.option(code.From)
		_, isNew := y.option(code.To)
		if !isOld || !isNew && code.To != 0 {
			return api.ErrName
		}
		if i > 0 && code.From <= m.Codes[i-1].From {
			return api.ErrOrder
		}
	}
	return api.OK
}

// suggested returns maps for all questions that were renamed (T9).
func suggested(from, to *book) []api.Map {
	var out []api.Map
	reached := map[string]bool{}
	for _, x := range from.gone(to) {
		for _, y := range to.list {
			if y.isQuestion() && from.question(y.Name) == nil && !reached[y.Name] && isRenamed(x, y) {
				out = append(out, api.Map{From: x.Name, To: y.Name})
				reached[y.Name] = true
				break
			}
		}
	}
	return out
}

// gone returns the questions of a form that another one does not have, in the order of names.
func (b *book) gone(other *book) []*variable {
	var out []*variable
	for _, name := range slices.Sorted(maps.Keys(b.named)) {
		if x := b.question(name); x != nil && other.question(name) == nil {
			out = append(out, x)
		}
	}
	return out
}

// isRenamed reports whether two questions seem to differ by their names alone.
func isRenamed(x, y *variable) bool {
	return len(x.item.Phrase) > 0 && slices.Equal(x.item.Phrase, y.item.Phrase) && slices.Equal(x.Loops, y.Loops) && x.Kind == y.Kind
}
