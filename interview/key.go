package interview

import (
	"cmp"
	"slices"

	"canvass/api"
	"canvass/value"
)

// place is a key by numbers: that of its item in the order of F1, and those of its row, behind which zeros stand. So places have the order of keys (I1).
type place struct {
	item int
	row  [api.MaxLoops]int
}

func (p place) compare(q place) int {
	return cmp.Or(cmp.Compare(p.item, q.item), slices.Compare(p.row[:], q.row[:]))
}

// placeAt returns the place of an item at a row.
func placeAt(x *entry, row []int) place {
	p := place{item: x.number}
	copy(p.row[:], row)
	return p
}

// keyAt returns the key of an item at a row.
func keyAt(x *entry, row []int) api.Key { return api.Key{Name: x.Name, Row: slices.Clone(row)} }

// placeOf returns the place of a key of the form.
func (g *guide) placeOf(key api.Key) place { return placeAt(g.named[key.Name], key.Row) }

// keyOf returns the key at a place.
func (g *guide) keyOf(p place) api.Key {
	x := g.entries[p.item]
	return keyAt(x, p.row[:len(x.loops)])
}

// isAt reports whether a key is another one.
func isAt(a, b api.Key) bool { return a.Name == b.Name && slices.Equal(a.Row, b.Row) }

// answersOf returns given answers by their places, or the errors that they have if they are not sound (I1). It keeps their values.
func (g *guide) answersOf(given []api.Given) (map[place]api.Value, api.Fault) {
	answers := map[place]api.Value{}
	for _, a := range given {
		if fault := g.checkGiven(a); fault != api.OK {
			return nil, fault
		}
		at := g.placeOf(a.Key)
		if _, twice := answers[at]; twice {
			return nil, api.ErrTwice
		}
		answers[at] = a.Value
	}
	return answers, api.OK
}

// checkGiven has the errors of a given answer alone.
func (g *guide) checkGiven(a api.Given) api.Fault {
	x := g.named[a.Key.Name]
	if x == nil || x.Kind != api.ItemQuestion {
		return api.ErrName
	}
	if len(a.Key.Row) != len(x.loops) {
		return api.ErrForm
	}
	for _, n := range a.Key.Row {
		if n < 1 || n > api.MaxCode {
			return api.ErrRange
		}
	}
	if fault := value.Check(a.Value); fault != api.OK {
		return fault
	}
	if a.Value.Kind == api.Bool {
		return api.ErrKind
	}
	return api.OK
}
