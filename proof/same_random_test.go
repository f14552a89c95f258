package proof

import (
	"math/rand"
	"slices"
	"testing"

	"canvass/api"
	"canvass/fresh"
	"canvass/quest"
)

// withoutOnly takes the Onlys from all questions.
func withoutOnly(items []api.Item) {
	for i := range items {
		items[i].Answer.Only = nil
		withoutOnly(items[i].Items)
	}
}

// change changes a form in one place: a condition, or an item that goes or changes places.
func (m *maker) change(items []api.Item) []api.Item {
	if len(items) == 0 {
		return items
	}
	i := m.Intn(len(items))
	if len(items[i].Items) > 0 && m.chance(60) {
		items[i].Items = m.change(items[i].Items)
		return items
	}
	switch m.Intn(6) {
	case 0:
		return slices.Delete(items, i, i+1)
	case 1:
		j := m.Intn(len(items))
		items[i], items[j] = items[j], items[i]
	case 2:
		items[i].If = nil
	default:
		items[i].If = m.conditions("")
	}
	return items
}

// makePair makes a plain form without Onlys, and another one that is like it.
func (m *maker) makePair() (api.Form, api.Form) {
	for {
		a := m.form()
		withoutOnly(a.Items)
		b := fresh.Form(a)
		for range 1 + m.Intn(2) {
			b.Items = m.change(b.Items)
		}
		if Plain(a) == api.OK && Plain(b) == api.OK {
			return a, b
		}
	}
}

// TestSameByChance holds P8 against all values of all questions.
func TestSameByChance(t *testing.T) {
	m := &maker{Rand: rand.New(rand.NewSource(2))}
	for range 200 {
		a, b := m.makePair()
		if !t.Run("", func(t *testing.T) { compareSame(t, a, b, 300) }) {
			text, _ := quest.Text(a)
			other, _ := quest.Text(b)
			t.Fatal(text + other)
		}
	}
}

// valuesByHand returns all values of all questions of two forms with which P8 is concerned; none, if there are more than most.
func valuesByHand(a, b api.Form, most int) ([][]api.Given, bool) {
	l := [][]api.Given{nil}
	seen := map[string]bool{}
	for _, f := range []api.Form{a, b} {
		items, _ := preorder(f.Items, "")
		for _, item := range items {
			if item.Kind != api.ItemQuestion || seen[item.Name] {
				continue
			}
			seen[item.Name] = true
			var next [][]api.Given
			for _, v := range domainOf(f, item) {
				if quest.Accept(f, item.Name, v, []int{1, 2, 3, 4}) == api.OK {
					for _, one := range l {
						next = append(next, append(slices.Clone(one), given(item.Name, v)))
					}
				}
			}
			l = next
			if len(l) > most {
				return nil, false
			}
		}
	}
	return l, true
}

// questionsReached returns the names of the questions that a form reaches with those of some answers that are for it.
func questionsReached(f api.Form, l []api.Given) []string {
	isQuestion := func(name string) bool {
		item := itemOf(f.Items, name)
		return item != nil && item.Kind == api.ItemQuestion
	}
	own := slices.DeleteFunc(slices.Clone(l), func(g api.Given) bool { return !isQuestion(g.Key.Name) })
	reached, _ := Reached(f, own)
	reached = slices.DeleteFunc(reached, func(name string) bool { return !isQuestion(name) })
	slices.Sort(reached)
	return reached
}

// apartBy returns the questions that just one of two forms reaches.
func apartBy(a, b api.Form, l []api.Given) []string {
	one, other := questionsReached(a, l), questionsReached(b, l)
	var out []string
	for _, name := range slices.Concat(one, other) {
		if slices.Contains(one, name) != slices.Contains(other, name) {
			out = append(out, name)
		}
	}
	return out
}

// needsByHand returns the names of the questions on which one depends in one form or both.
func needsByHand(a, b api.Form, name string) []string {
	var out []string
	for _, f := range []api.Form{a, b} {
		if itemOf(f.Items, name) != nil {
			out = append(out, dependsByHand(f, name, false)...)
		}
	}
	slices.Sort(out)
	return slices.Compact(out)
}

func compareSame(t *testing.T, a, b api.Form, most int) {
	all, isWhole := valuesByHand(a, b, most)
	if !isWhole {
		return
	}
	isSame := !slices.ContainsFunc(all, func(l []api.Given) bool { return len(apartBy(a, b, l)) > 0 })
	same, l, fault := Same(a, b)
	if same != isSame || fault != api.OK {
		t.Fatal("Same", same, isSame, fault)
	}
	if same {
		if len(l) > 0 {
			t.Error("Same with values", wordsOf(l))
		}
		return
	}
	names := namesOf(l)
	slices.Sort(names)
	isFor := func(name string) bool { return slices.Equal(names, needsByHand(a, b, name)) }
	told := slices.DeleteFunc(apartBy(a, b, l), func(name string) bool { return !isFor(name) })
	if len(told) == 0 {
		t.Error("Same returns other values", wordsOf(l))
	}
	isSound := slices.ContainsFunc(all, func(one []api.Given) bool {
		return !slices.ContainsFunc(l, func(g api.Given) bool {
			return wordsOf([]api.Given{g}) != wordsOf([]api.Given{given(g.Key.Name, valueIn(one, g.Key.Name))})
		})
	})
	if !isSound {
		t.Error("Same returns values that are not accepted", wordsOf(l))
	}
}
