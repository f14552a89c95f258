package proof

import (
	"math/rand"
	"slices"
	"strconv"
	"testing"

	"canvass/api"
	"canvass/fresh"
	"canvass/quest"
	"canvass/value"
)

// maker makes plain forms by chance.
type maker struct {
	*rand.Rand
	f     api.Form
	cells []api.Item
	n     int // items so far
}

func (m *maker) chance(percent int) bool { return m.Intn(100) < percent }

func (m *maker) name() string {
	m.n++
	return "i" + strconv.Itoa(m.n)
}

// form makes a form; it is right, but perhaps for conditions that name what does not stand ahead.
func (m *maker) form() api.Form {
	m.f = api.Form{Name: "f", Version: 1, Languages: []string{"en"}}
	for i := range 3 {
		list := api.List{Name: "l" + strconv.Itoa(i)}
		for _, code := range m.Perm(4)[:1+m.Intn(3)] {
			list.Options = append(list.Options, api.Option{Code: code + 1, Alone: m.chance(20), Last: m.chance(20)})
		}
		m.f.Lists = append(m.f.Lists, list)
	}
	m.cells, m.n = nil, 0
	m.f.Items = m.items(1, false)
	return m.f
}

func (m *maker) items(level int, onPage bool) []api.Item {
	var out []api.Item
	for range 2 + m.Intn(3) {
		if m.n >= 11 {
			return out
		}
		out = append(out, m.item(level, onPage))
	}
	return out
}

func (m *maker) item(level int, onPage bool) api.Item {
	item := api.Item{Name: m.name()}
	if len(m.cells) > 0 && m.chance(50) || m.chance(3) {
		item.If = m.conditions("")
	}
	kind := m.Intn(10)
	switch {
	case onPage && kind < 8:
		item.Kind, item.Answer = api.ItemQuestion, m.answer(item.Name)
		m.cells = append(m.cells, item)
	case kind == 9 && onPage || level > 3:
		item.Kind, item.Compute = api.ItemCompute, m.conditions("")
		m.cells = append(m.cells, item)
	case !onPage && kind > 6 && len(m.cells) > 0 && (level > 1 || m.chance(50)):
		item.Kind = api.ItemEnd
		if len(item.If) == 0 && m.chance(90) {
			item.If = m.conditions("")
		}
	case kind > 5 || onPage:
		item.Kind, item.Shuffle = api.ItemBlock, m.chance(30)
		item.Items = m.items(level+1, onPage)
	default:
		item.Kind, item.Items = api.ItemPage, m.items(level+1, true)
	}
	return item
}

func (m *maker) answer(name string) api.Answer {
	a := api.Answer{Kind: []int{api.Number, api.Text, api.Choice, api.Choices, api.Day, api.Choice}[m.Intn(6)], Need: m.chance(60)}
	for n := api.DontKnow; n <= api.NoAnswer; n++ {
		if m.chance(15) {
			a.Reasons = append(a.Reasons, n)
		}
	}
	switch a.Kind {
	case api.Number:
		a.Low = -5000 + 1000*m.Intn(10)
		a.High, a.Places = a.Low+5000*m.Intn(5), m.Intn(2)
		if a.Places == 1 {
			a.High = min(a.High, a.Low+4000)
		}
	case api.Day:
		a.Low = m.Intn(4)
		a.High = a.Low + m.Intn(4)
	case api.Text:
		a.Low = m.Intn(2)
		a.High = 1
	default:
		a.List = "l" + strconv.Itoa(m.Intn(3))
		a.Shuffle = m.chance(20)
		if a.Kind == api.Choices {
			a.Low = m.Intn(3)
			a.High = a.Low + m.Intn(3)
		}
		if m.chance(50) {
			a.Only = m.conditions(name)
		}
	}
	return a
}

// conditions makes one condition, of an Only if a question is named.
func (m *maker) conditions(ofOnly string) []api.Expr {
	text := m.condition(3, ofOnly != "")
	e, place, fault := value.Parse(text)
	if fault != api.OK {
		panic(text + strconv.Itoa(place))
	}
	return []api.Expr{e}
}

func (m *maker) condition(depth int, ofOnly bool) string {
	switch kind := m.Intn(10); {
	case depth > 0 && kind < 2:
		return "not (" + m.condition(depth-1, ofOnly) + ")"
	case depth > 0 && kind < 5:
		return "(" + m.condition(depth-1, ofOnly) + []string{") and (", ") or ("}[m.Intn(2)] + m.condition(depth-1, ofOnly) + ")"
	case ofOnly && kind < 8:
		return m.about("option", api.Choice)
	case len(m.cells) == 0:
		return []string{"true", "false"}[m.Intn(2)]
	}
	x := m.cells[m.Intn(len(m.cells))]
	if x.Kind == api.ItemCompute {
		return []string{x.Name, x.Name, "asked(" + x.Name + ")", "answered(" + x.Name + ")", "reason(" + x.Name + ") = 0"}[m.Intn(5)]
	}
	return m.about(x.Name, x.Answer.Kind)
}

func (m *maker) about(name string, kind int) string {
	sign := []string{" = ", " <> ", " < ", " <= ", " > ", " >= "}[m.Intn(6)]
	swap := func(a, b string) string {
		if m.chance(30) {
			return b + sign + a
		}
		return a + sign + b
	}
	switch general := m.Intn(10); {
	case general == 0:
		return "asked(" + name + ")"
	case general < 3:
		return "answered(" + name + ")"
	case general == 3:
		return swap("reason("+name+")", strconv.Itoa(m.Intn(4)))
	}
	code := func() string { return "#" + strconv.Itoa(1+m.Intn(4)) }
	switch kind {
	case api.Number:
		text, _ := value.Show(numberValue(-6000 + 500*m.Intn(60)))
		return swap(name, text)
	case api.Day:
		text, _ := value.Show(dayValue(m.Intn(8)))
		return swap(name, text)
	case api.Choice:
		if m.chance(50) {
			return name + " in {" + []string{"", "#1", "#2,#3", "#1,#4"}[m.Intn(4)] + "}"
		}
		sign = []string{" = ", " <> "}[m.Intn(2)]
		return swap(name, code())
	case api.Choices:
		if m.chance(60) {
			return name + " has " + code()
		}
		return swap("size("+name+")", strconv.Itoa(m.Intn(4)))
	}
	return "answered(" + name + ")"
}

// makePlain makes forms until one is plain.
func (m *maker) makePlain() api.Form {
	for {
		if f := m.form(); Plain(f) == api.OK {
			return f
		}
	}
}

// TestByChance holds P2 to P7 against all courses of small forms.
func TestByChance(t *testing.T) {
	m := &maker{Rand: rand.New(rand.NewSource(1))}
	for range 80 {
		f := m.makePlain()
		all := coursesOf(t, f, 100)
		if all == nil {
			continue
		}
		if text, _ := quest.Text(f); !t.Run("", func(t *testing.T) { compareWithCourses(t, m, f, all) }) {
			t.Fatal(text)
		}
	}
}

func compareWithCourses(t *testing.T, m *maker, f api.Form, all []course) {
	items, _ := preorder(f.Items, "")
	for _, item := range items {
		if mixByHand(f, item.Name) > api.MaxMix {
			holdLarge(t, f, item.Name)
			return
		}
	}
	for _, c := range all {
		reached, fault := Reached(f, c.given)
		possible, _ := Possible(f, c.given)
		if !slices.Equal(reached, c.reached) || !possible || fault != api.OK {
			t.Error("Reached", wordsOf(c.given), reached, c.reached, possible)
		}
	}
	compareAnswers(t, m, f)
	for _, item := range items {
		if n, fault := Mix(f, item.Name); n != mixByHand(f, item.Name) || fault != api.OK {
			t.Error("Mix", item.Name, n, mixByHand(f, item.Name), fault)
		}
		if l, fault := Depends(f, item.Name); !slices.Equal(l, dependsByHand(f, item.Name, false)) || fault != api.OK {
			t.Error("Depends", item.Name, l)
		}
		compareReach(t, f, item.Name, all)
	}
	compareLists(t, f, items, all)
	compareCover(t, f, items, all)
}

// compareAnswers holds Reached and Possible for answers by chance.
func compareAnswers(t *testing.T, m *maker, f api.Form) {
	items, _ := preorder(f.Items, "")
	for range 10 {
		var l []api.Given
		for _, item := range items {
			if domain := domainOf(f, item); item.Kind == api.ItemQuestion && m.chance(80) {
				l = append(l, given(item.Name, domain[m.Intn(len(domain))]))
			}
		}
		c := courseOf(t, f, func(item api.Item, _ []api.Value, _ func(v api.Value) bool) api.Value { return valueIn(l, item.Name) })
		reached, _ := Reached(f, l)
		if possible, fault := Possible(f, l); possible != c.permitted || !slices.Equal(reached, c.reached) || fault != api.OK {
			t.Error("Possible", wordsOf(l), possible, c.permitted, reached, c.reached)
		}
	}
}

func compareReach(t *testing.T, f api.Form, name string, all []course) {
	var reaching []course
	for _, c := range all {
		if slices.Contains(c.reached, name) {
			reaching = append(reaching, c)
		}
	}
	l, fault := Reach(f, name)
	if len(reaching) == 0 {
		if fault != api.ErrNone || len(l) > 0 {
			t.Error("Reach of what is dead", name, fault)
		}
		return
	}
	reached, _ := Reached(f, l)
	depends, _ := Depends(f, name)
	want := slices.DeleteFunc(depends, func(other string) bool { return !slices.Contains(reached, other) })
	if fault != api.OK || !slices.Contains(reached, name) || !slices.Equal(namesOf(l), want) {
		t.Error("Reach", name, wordsOf(l), reached, want, fault)
	}
	agrees := func(c course) bool {
		return !slices.ContainsFunc(l, func(g api.Given) bool {
			return !slices.Contains(c.reached, g.Key.Name) || value.Compare(valueIn(c.given, g.Key.Name), g.Value) != 0
		})
	}
	if !slices.ContainsFunc(reaching, agrees) {
		t.Error("Reach is no part of possible answers", name, wordsOf(l))
	}
}

func compareLists(t *testing.T, f api.Form, items []api.Item, all []course) {
	var dead, stuck []string
	var facts []api.Fact
	for _, item := range items {
		reached, open, isStuck := 0, 0, false
		for _, c := range all {
			if slices.Contains(c.reached, item.Name) {
				reached++
			}
			if c.open[item.Name] {
				open++
			}
			isStuck = isStuck || slices.Contains(c.stuck, item.Name)
		}
		if reached == 0 {
			dead = append(dead, item.Name)
		}
		if isStuck {
			stuck = append(stuck, item.Name)
		}
		if len(item.If) > 0 && open > 0 && (reached == 0 || reached == open) {
			facts = append(facts, api.Fact{Name: item.Name, Is: reached == open})
		}
	}
	if l, fault := Dead(f); !slices.Equal(l, dead) || fault != api.OK {
		t.Error("Dead", l, dead, fault)
	}
	if l, fault := Stuck(f); !slices.Equal(l, stuck) || fault != api.OK {
		t.Error("Stuck", l, stuck, fault)
	}
	if l, fault := Constant(f); !slices.Equal(l, facts) || fault != api.OK {
		t.Error("Constant", l, facts, fault)
	}
}

func compareCover(t *testing.T, f api.Form, items []api.Item, all []course) {
	known := map[string]course{}
	targets := map[string]bool{}
	note := func(c course, targets map[string]bool) {
		for _, name := range c.reached {
			targets[name] = true
		}
		for _, g := range c.given {
			for _, code := range codesOf(g.Value) {
				targets[g.Key.Name+"#"+strconv.Itoa(code)] = true
			}
		}
	}
	for _, c := range all {
		known[wordsOf(c.given)] = c
		note(c, targets)
	}
	lists, fault := Cover(f)
	got := map[string]bool{}
	for _, l := range lists {
		c, possible := known[wordsOf(l)]
		if !possible {
			t.Error("Cover has answers that are not possible", wordsOf(l))
		}
		note(c, got)
	}
	if fault != api.OK || len(got) != len(targets) || len(lists) > len(targets) {
		t.Error("Cover", len(lists), "lists", len(got), "of", len(targets), fault)
	}
}

// dependsByHand returns the names of P4, told from all expressions; with those of which follows what is offered, if one likes.
func dependsByHand(f api.Form, name string, withOnly bool) []string {
	items, around := preorder(f.Items, "")
	found := map[string]bool{}
	var follow func(name string)
	var read func(l []api.Expr)
	read = func(l []api.Expr) {
		for _, e := range l {
			for _, other := range value.Names(e) {
				x := itemOf(f.Items, other)
				switch {
				case x == nil:
				case x.Kind == api.ItemCompute:
					read(x.Compute)
					follow(other)
				default:
					found[other] = true
					read(x.Answer.Only)
					follow(other)
				}
			}
		}
	}
	follow = func(name string) {
		read(itemOf(f.Items, name).If)
		if around[name] != "" {
			follow(around[name])
		}
		for _, item := range items {
			if item.Name == name {
				return
			}
			if item.Kind == api.ItemEnd {
				follow(item.Name)
			}
		}
	}
	follow(name)
	if withOnly {
		read(itemOf(f.Items, name).Answer.Only)
	}
	var out []string
	for _, item := range items {
		if found[item.Name] {
			out = append(out, item.Name)
		}
	}
	return out
}

// mixByHand returns the number of P5.
func mixByHand(f api.Form, name string) int {
	n := 1
	for _, other := range dependsByHand(f, name, true) {
		item := itemOf(f.Items, other)
		size := samplesByHand([]api.Form{f}, *item)
		if len(item.Answer.Only) > 0 && item.Answer.Need {
			size++
		}
		n *= max(size, 1)
	}
	return n
}

// samplesByHand returns how many samples a question has, by the constants of some forms.
func samplesByHand(forms []api.Form, item api.Item) int {
	var values []api.Value
	all := item
	all.Answer.Only = nil
	plain := fresh.Form(forms[0])
	if itemOf(plain.Items, item.Name) == nil {
		plain = fresh.Form(forms[1])
	}
	codes := []int{1, 2, 3, 4}
	for _, v := range domainOf(plain, all) {
		if quest.Accept(plain, item.Name, v, codes) == api.OK && v.Kind != api.Text {
			values = append(values, v)
		}
	}
	n := 0
	if item.Answer.Kind == api.Text {
		n = 1
	}
	var numbers []int
	for _, v := range values {
		if v.Kind == api.Number || v.Kind == api.Day {
			numbers = append(numbers, v.N)
		} else {
			n++
		}
	}
	if len(numbers) == 0 {
		return n
	}
	keep := map[int]bool{numbers[0]: true, numbers[len(numbers)-1]: true}
	for _, f := range forms {
		for _, c := range constantsByHand(f, item.Name) {
			for i, number := range numbers {
				if number == c || number < c && (i == len(numbers)-1 || numbers[i+1] >= c) || number > c && (i == 0 || numbers[i-1] <= c) {
					keep[number] = true
				}
			}
		}
	}
	return n + len(keep)
}

func constantsByHand(f api.Form, name string) []int {
	var out []int
	var read func(e api.Expr)
	read = func(e api.Expr) {
		for i, arg := range e.Args {
			read(arg)
			if arg.Kind == api.XAnswer && arg.Name == name && len(e.Args) == 2 {
				out = append(out, e.Args[1-i].Value.N)
			}
		}
	}
	items, _ := preorder(f.Items, "")
	for _, item := range items {
		for _, e := range slices.Concat(item.If, item.Answer.Only, item.Compute) {
			read(e)
		}
	}
	return out
}
