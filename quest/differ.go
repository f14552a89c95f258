package quest

import (
	"cmp"
	"maps"
	"slices"
	"strings"

	"canvass/api"
)

// Differences returns in what two forms differ (F12).
func Differences(a, b api.Form) ([]api.Difference, api.Fault) {
	p, fault := planOf(a)
	if fault != api.OK {
		return nil, fault
	}
	q, fault := planOf(b)
	if fault != api.OK {
		return nil, fault
	}
	found := map[api.Difference]bool{}
	note := func(kind int, name string, differs bool) {
		if differs {
			found[api.Difference{Kind: kind, Name: name}] = true
		}
	}
	for _, x := range p.entries {
		y := q.named[x.item.Name]
		note(api.DiffGone, x.item.Name, y == nil)
		if y != nil {
			note(api.DiffMoved, x.item.Name, p.nameAround(x) != q.nameAround(y))
			noteItems(x.item, y.item, note)
		}
	}
	for _, y := range q.entries {
		note(api.DiffNew, y.item.Name, p.named[y.item.Name] == nil)
	}
	noteLists(p, q, note)
	note(api.DiffOrder, "", differInOrder(a.Items, b.Items))
	note(api.DiffForm, "", a.Name != b.Name || !slices.Equal(a.Languages, b.Languages))
	return slices.SortedFunc(maps.Keys(found), func(a, b api.Difference) int {
		return cmp.Or(cmp.Compare(a.Kind, b.Kind), strings.Compare(a.Name, b.Name))
	}), api.OK
}

// nameAround returns the name of the item directly around an item; it is empty if there is none.
func (p *plan) nameAround(x *entry) string {
	if len(x.path) == 1 {
		return ""
	}
	return p.entries[x.path[len(x.path)-2]].item.Name
}

// noteItems notes in what an item of both forms differs, but for where it stands.
func noteItems(a, b api.Item, note func(kind int, name string, differs bool)) {
	note(api.DiffOrder, a.Name, differInOrder(a.Items, b.Items))
	note(api.DiffRoute, a.Name, !sameRoute(a, b))
	note(api.DiffPhrase, a.Name, !slices.Equal(a.Phrase, b.Phrase))
	if a.Kind != api.ItemQuestion || b.Kind != api.ItemQuestion {
		return
	}
	note(api.DiffAnswer, a.Name, !sameAnswerBut(a.Answer, b.Answer, sameDemand))
	for i := range min(len(a.Answer.Checks), len(b.Answer.Checks)) {
		note(api.DiffPhrase, a.Name, !slices.Equal(a.Answer.Checks[i].Phrase, b.Answer.Checks[i].Phrase))
	}
}

// noteLists notes lists that are in one form alone, or have other options.
func noteLists(p, q *plan, note func(kind int, name string, differs bool)) {
	for name, list := range p.lists {
		other, known := q.lists[name]
		note(api.DiffList, name, !known || !sameList(list, other))
	}
	for name := range q.lists {
		_, known := p.lists[name]
		note(api.DiffList, name, !known)
	}
}

// differInOrder reports whether those items that stand in both lists do so in different orders.
func differInOrder(a, b []api.Item) bool {
	return !slices.Equal(namesInBoth(a, b), namesInBoth(b, a))
}

// namesInBoth returns the names of those items of a list that another one has, too.
func namesInBoth(list, other []api.Item) []string {
	known := map[string]bool{}
	for _, item := range other {
		known[item.Name] = true
	}
	var names []string
	for _, item := range list {
		if known[item.Name] {
			names = append(names, item.Name)
		}
	}
	return names
}
