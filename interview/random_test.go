package interview

import (
	"cmp"
	"math/rand"
	"slices"
	"strconv"
	"strings"
	"testing"

	"canvass/api"
	"canvass/quest"
	"canvass/value"
)

// Here routes and interviews are made a second time, word by word as the chapter says, by the listed functions of packages value and quest alone, and held against those of this package, for forms and steps by chance.

// maker makes forms by chance.
type maker struct {
	*rand.Rand
	items, loops, questions, computed int
	form                              api.Form
}

func randomForm(r *rand.Rand) api.Form {
	m := &maker{Rand: r}
	f, _, _ := quest.Read(listedHead)
	m.form = f
	m.form.Items = m.someItems(0, 0, false)
	m.addExpressions()
	return m.form
}

func (m *maker) name(letter string) string {
	m.items++
	return letter + strconv.Itoa(m.items)
}

func (m *maker) someItems(depth, loops int, onPage bool) []api.Item {
	var out []api.Item
	for n := 1 + m.Intn(4); n > 0 && m.items < 22; n-- {
		out = append(out, m.item(depth, loops, onPage))
	}
	return out
}

func (m *maker) item(depth, loops int, onPage bool) api.Item {
	n := m.Intn(12)
	switch {
	case n == 0 && !onPage && depth > 0 && m.Intn(2) == 0:
		return api.Item{Kind: api.ItemEnd, Name: m.name("e")}
	case n < 2:
		return api.Item{Kind: api.ItemCompute, Name: m.name("c")}
	case n < 4 && depth < 4:
		return api.Item{Kind: api.ItemBlock, Name: m.name("b"), Shuffle: m.Intn(2) == 0, Items: m.someItems(depth+1, loops, onPage)}
	case n < 7 && depth < 4 && loops < 3:
		return api.Item{Kind: api.ItemLoop, Name: m.name("l"), Items: m.someItems(depth+1, loops+1, onPage)}
	case onPage:
		return m.question()
	}
	return api.Item{Kind: api.ItemPage, Name: m.name("p"), Items: m.someItems(depth+1, loops, true)}
}

func (m *maker) question() api.Item {
	a := api.Answer{Kind: []int{api.Number, api.Choice, api.Choices, api.Choices}[m.Intn(4)], Need: m.Intn(3) == 0}
	switch a.Kind {
	case api.Number:
		a.High = 50000
	case api.Choices:
		a.High = 3
	}
	if a.Kind != api.Number {
		a.List, a.Shuffle = []string{"two", "mix"}[m.Intn(2)], m.Intn(3) == 0
	}
	if m.Intn(3) == 0 {
		a.Reasons = []int{api.Refused}
	}
	return api.Item{Kind: api.ItemQuestion, Name: m.name("q"), Answer: a}
}

// addExpressions gives items expressions, of those which Check accepts.
func (m *maker) addExpressions() {
	items := m.pointers()
	// What must have an expression has a simple one first.
	for _, item := range items {
		switch item.Kind {
		case api.ItemCompute:
			item.Compute = []api.Expr{m.parsed("1")}
		case api.ItemLoop:
			item.Count = []api.Expr{m.parsed("2")}
		}
	}
	for _, item := range items {
		switch item.Kind {
		case api.ItemCompute:
			m.put(&item.Compute, func() string { return []string{m.number(2), m.condition(2), m.anyName()}[m.Intn(3)] })
		case api.ItemLoop:
			m.putLoop(item)
		case api.ItemQuestion:
			if item.Answer.List != "" && m.Intn(3) == 0 {
				m.put(&item.Answer.Only, m.only)
			}
			for range m.Intn(3) {
				m.putCheck(item)
			}
		}
		if m.Intn(3) > 0 {
			m.put(&item.If, func() string { return m.condition(2) })
		}
	}
}

// pointers returns all items, in the order of F1.
func (m *maker) pointers() []*api.Item {
	var out []*api.Item
	var gather func(items []api.Item)
	gather = func(items []api.Item) {
		for i := range items {
			out = append(out, &items[i])
			gather(items[i].Items)
		}
	}
	gather(m.form.Items)
	return out
}

func (m *maker) parsed(text string) api.Expr {
	e, _, _ := value.Parse(text)
	return e
}

// attempts is how many expressions are tried for a place.
const attempts = 6

// put puts an expression in a place, if it finds one with which the form is right.
func (m *maker) put(at *[]api.Expr, text func() string) {
	before := *at
	for range attempts {
		if *at = []api.Expr{m.parsed(text())}; quest.Check(m.form) == api.OK {
			return
		}
	}
	*at = before
}

func (m *maker) putLoop(item *api.Item) {
	m.put(&item.Count, func() string { return m.number(1) })
	for range m.Intn(2) * attempts {
		count, over := item.Count, item.Over
		if item.Count, item.Over = nil, m.anyName(); quest.Check(m.form) == api.OK {
			return
		}
		item.Count, item.Over = count, over
	}
}

func (m *maker) putCheck(item *api.Item) {
	before := item.Answer.Checks
	for range attempts {
		text := m.condition(2)
		if m.Intn(2) == 0 {
			text = "answered(" + item.Name + ") or " + text
		}
		item.Answer.Checks = append(slices.Clone(before), api.Rule{Must: m.parsed(text), Soft: m.Intn(2) == 0})
		if quest.Check(m.form) == api.OK {
			return
		}
	}
	item.Answer.Checks = before
}

func (m *maker) anyName() string {
	items := m.pointers()
	return items[m.Intn(len(items))].Name
}

// nameOf returns the name of an item for which something holds; one that there is not, if there is none.
func (m *maker) nameOf(holds func(item *api.Item) bool) string {
	items := slices.DeleteFunc(m.pointers(), func(item *api.Item) bool { return !holds(item) })
	if len(items) == 0 {
		return "none"
	}
	return items[m.Intn(len(items))].Name
}

func (m *maker) ofKind(kind int) string {
	return m.nameOf(func(item *api.Item) bool { return item.Answer.Kind == kind })
}

func (m *maker) loop() string {
	return m.nameOf(func(item *api.Item) bool { return item.Kind == api.ItemLoop })
}

func (m *maker) code() string { return "#" + []string{"1", "2", "3", "5", "7", "9"}[m.Intn(6)] }

func (m *maker) condition(depth int) string {
	switch n := m.Intn(13); {
	case n == 0 && depth > 0:
		return "not (" + m.condition(depth-1) + ")"
	case n == 1 && depth > 0:
		return "(" + m.condition(depth-1) + ") and (" + m.condition(depth-1) + ")"
	case n == 2 && depth > 0:
		return "(" + m.condition(depth-1) + ") or (" + m.condition(depth-1) + ")"
	case n == 3 && depth > 0:
		return []string{"any", "all"}[m.Intn(2)] + "(" + m.loop() + ": " + m.condition(depth-1) + ")"
	case n < 5:
		return m.number(depth) + " " + []string{"<", ">", "=", "<>"}[m.Intn(4)] + " " + strconv.Itoa(m.Intn(5))
	case n < 7:
		return m.ofKind(api.Choice) + " " + []string{"=", "<>"}[m.Intn(2)] + " " + m.code()
	case n < 9:
		return m.ofKind(api.Choices) + " has " + m.code()
	case n == 9:
		return "asked(" + m.anyName() + ")"
	case n == 10:
		return "reason(" + m.anyName() + ") = " + strconv.Itoa(m.Intn(3))
	}
	return "answered(" + m.anyName() + ")"
}

func (m *maker) number(depth int) string {
	switch n := m.Intn(10); {
	case n < 2 && depth > 0:
		return []string{"sum", "least", "most"}[m.Intn(3)] + "(" + m.loop() + ": " + m.number(depth-1) + ")"
	case n < 3 && depth > 0:
		return "count(" + m.loop() + ": " + m.condition(depth-1) + ")"
	case n < 4:
		return "row(" + m.loop() + ")"
	case n < 5:
		return "size(" + m.ofKind(api.Choices) + ")"
	case n < 6 && depth > 0:
		return m.number(depth-1) + " + " + m.number(depth-1)
	case n < 9:
		return m.ofKind(api.Number)
	}
	return strconv.Itoa(m.Intn(4))
}

func (m *maker) only() string {
	switch m.Intn(4) {
	case 0:
		return "option in " + m.ofKind(api.Choices)
	case 1:
		return "code(option) > " + m.number(1)
	case 2:
		return "option <> " + m.ofKind(api.Choice) + " or " + m.condition(1)
	}
	return "option = " + m.code() + " or " + m.condition(1)
}

// plainRoute makes a route by the chapter's words (I2).
type plainRoute struct {
	t     *testing.T
	form  api.Form
	seed  string
	given []api.Given
	scene api.Scene
	route api.Route
	page  api.Key
	ended bool
}

func plainRouteOf(t *testing.T, f api.Form, seed string, given []api.Given) (api.Route, api.Scene) {
	t.Helper()
	blank, _ := quest.Blank(f)
	p := &plainRoute{t: t, form: f, seed: seed, given: given, scene: blank}
	p.along(f.Items, nil, nil)
	p.route.Rows = p.scene.Rows
	return p.route, p.scene
}

func (p *plainRoute) eval(e api.Expr, loops []string, row []int) api.Value {
	p.t.Helper()
	v, fault := value.Eval(e, p.scene, loops, row)
	if fault != api.OK {
		p.t.Fatal("Eval", fault)
	}
	return v
}

func (p *plainRoute) along(items []api.Item, loops []string, row []int) {
	for _, item := range items {
		if !p.ended {
			p.alongOne(item, loops, row)
		}
	}
}

func (p *plainRoute) alongOne(item api.Item, loops []string, row []int) {
	if len(item.If) > 0 && p.eval(item.If[0], loops, row).N == 0 {
		return
	}
	at := api.Key{Name: item.Name, Row: slices.Clone(row)}
	switch item.Kind {
	case api.ItemPage:
		p.route.Pages = append(p.route.Pages, at)
		p.page = at
		p.along(item.Items, loops, row)
		p.page = api.Key{}
	case api.ItemBlock:
		order, _ := quest.Arranged(p.form, p.seed, item.Name, row)
		for _, n := range order {
			p.along(item.Items[n:n+1], loops, row)
		}
	case api.ItemLoop:
		p.alongLoop(item, loops, row)
	case api.ItemQuestion:
		p.alongQuestion(item, at, loops)
	case api.ItemCompute:
		a := api.Asked{Key: at, Page: p.page, Kind: item.Kind, Value: p.eval(item.Compute[0], loops, row)}
		p.bind(a)
		p.route.Asked = append(p.route.Asked, a)
	case api.ItemEnd:
		p.route.End, p.ended = item.Name, true
	}
}

func (p *plainRoute) alongLoop(item api.Item, loops []string, row []int) {
	rows := api.Rows{Loop: item.Name, Row: slices.Clone(row)}
	if len(item.Count) == 1 {
		for n := 1; n <= api.MaxRows && n*10000 <= p.eval(item.Count[0], loops, row).N; n++ {
			rows.Numbers = append(rows.Numbers, n)
		}
	} else {
		rows.Numbers = p.eval(api.Expr{Kind: api.XAnswer, Name: item.Over}, loops, row).Set
	}
	p.scene.Rows = append(p.scene.Rows, rows)
	slices.SortFunc(p.scene.Rows, func(a, b api.Rows) int {
		return cmp.Or(strings.Compare(a.Loop, b.Loop), slices.Compare(a.Row, b.Row))
	})
	for _, n := range rows.Numbers {
		p.along(item.Items, append(slices.Clone(loops), item.Name), append(slices.Clone(row), n))
	}
}

func (p *plainRoute) alongQuestion(item api.Item, at api.Key, loops []string) {
	a := api.Asked{Key: at, Page: p.page, Kind: item.Kind}
	if item.Answer.List != "" {
		offered, fault := quest.Options(p.form, p.seed, item.Name, at.Row, p.scene)
		if fault != api.OK {
			p.t.Fatal("Options", fault)
		}
		a.Offered = offered
	}
	for _, g := range p.given {
		if isAt(g.Key, at) && quest.Accept(p.form, item.Name, g.Value, a.Offered) == api.OK {
			a.Value = g.Value
		}
	}
	p.bind(a)
	for n, check := range item.Answer.Checks {
		switch {
		case p.eval(check.Must, loops, at.Row).N == 1:
		case check.Soft:
			a.Soft = append(a.Soft, n)
		default:
			a.Open = api.ErrCheck
		}
	}
	if a.Value.Kind == api.Missing && quest.Accept(p.form, item.Name, api.Value{}, a.Offered) != api.OK {
		a.Open = api.ErrMissing
	}
	p.route.Asked = append(p.route.Asked, a)
}

func (p *plainRoute) bind(a api.Asked) {
	p.scene.Bounds = append(p.scene.Bounds, api.Bound{Name: a.Key.Name, Row: a.Key.Row, Value: a.Value, Asked: true})
	slices.SortFunc(p.scene.Bounds, func(a, b api.Bound) int {
		return cmp.Or(strings.Compare(a.Name, b.Name), slices.Compare(a.Row, b.Row))
	})
}

// plainOrder orders keys (I1).
func plainOrder(f api.Form) func(a, b api.Key) int {
	m := &maker{form: f}
	var names []string
	for _, item := range m.pointers() {
		names = append(names, item.Name)
	}
	return func(a, b api.Key) int {
		return cmp.Or(cmp.Compare(slices.Index(names, a.Name), slices.Index(names, b.Name)), slices.Compare(a.Row, b.Row))
	}
}

// plainData returns the data of a route, in order (I2).
func plainData(f api.Form, r api.Route) []api.Given {
	var out []api.Given
	for _, a := range r.Asked {
		if a.Kind == api.ItemQuestion && a.Value.Kind != api.Missing {
			out = append(out, api.Given{Key: a.Key, Value: a.Value})
		}
	}
	order := plainOrder(f)
	slices.SortFunc(out, func(a, b api.Given) int { return order(a.Key, b.Key) })
	return out
}

// randomValue returns a value that fits a question often.
func randomValue(r *rand.Rand, item *api.Item) api.Value {
	switch n := r.Intn(20); {
	case n == 0:
		return api.Value{}
	case n == 1:
		return specialValue(1 + r.Intn(3))
	case n == 2:
		return textValue("x")
	}
	codes := []int{1, 2, 3, 5, 7, 9}
	switch item.Answer.Kind {
	case api.Number:
		return numberValue(r.Intn(7))
	case api.Choice:
		return choiceValue(codes[r.Intn(6)])
	}
	var set []int
	for _, code := range codes {
		if r.Intn(3) == 0 {
			set = append(set, code)
		}
	}
	return choicesValue(set...)
}

func randomRow(r *rand.Rand, loops []string) []int {
	var row []int
	for range loops {
		row = append(row, []int{1, 1, 2, 2, 3, 5, 7, 9}[r.Intn(8)])
	}
	return row
}

// randomAnswers returns sound answers by chance.
func randomAnswers(r *rand.Rand, f api.Form) []api.Given {
	m := &maker{form: f}
	var out []api.Given
	for _, item := range m.pointers() {
		if item.Kind != api.ItemQuestion {
			continue
		}
		_, loops, _ := quest.Find(f, item.Name)
		for range 1 + 6*len(loops) {
			a := api.Given{Key: api.Key{Name: item.Name, Row: randomRow(r, loops)}, Value: randomValue(r, item)}
			if r.Intn(4) > 0 && !slices.ContainsFunc(out, func(b api.Given) bool { return isAt(a.Key, b.Key) }) {
				out = append(out, a)
			}
		}
	}
	r.Shuffle(len(out), func(i, j int) { out[i], out[j] = out[j], out[i] })
	return out
}

// TestRoutesByChance holds routes, data and scenes against those that the chapter's words make.
func TestRoutesByChance(t *testing.T) {
	pages, rows, ends := 0, 0, 0
	for n := range 400 {
		r := rand.New(rand.NewSource(int64(n)))
		f := randomForm(r)
		if fault := quest.Check(f); fault != api.OK {
			t.Fatal("the form is wrong", fault)
		}
		for k := range 4 {
			given, seed := randomAnswers(r, f), "s"+strconv.Itoa(k)
			want, scene := plainRouteOf(t, f, seed, given)
			if len(want.Asked) > 1000 {
				continue
			}
			got, fault := RouteOf(f, seed, given)
			if fault != api.OK || !sameRoute(got, want) {
				text, _ := quest.Text(f)
				t.Fatalf("RouteOf %d\n%s%s\ngot  %s\nwant %s", fault, text, answersText(given), routeText(got), routeText(want))
			}
			data, fault := Data(f, seed, given)
			if fault != api.OK || !slices.EqualFunc(data, plainData(f, want), sameGiven) {
				t.Fatal("Data", answersText(data), fault)
			}
			if s, fault := SceneOf(f, seed, given); fault != api.OK || !sameScene(s, scene) {
				t.Fatal("SceneOf", s, fault)
			}
			// The data alone make the same route (I3).
			if again, fault := RouteOf(f, seed, data); fault != api.OK || !sameRoute(again, want) {
				t.Fatal("RouteOf of data", fault)
			}
			pages, rows = pages+len(got.Pages), rows+len(got.Rows)
			if got.End != "" {
				ends++
			}
		}
	}
	if pages < 3000 || rows < 1000 || ends < 100 {
		t.Error("the forms are poor", pages, rows, ends)
	}
}

func sameScene(a, b api.Scene) bool {
	sameCell := func(a, b api.Cell) bool {
		return a.Name == b.Name && a.Kind == b.Kind && slices.Equal(a.Loops, b.Loops)
	}
	sameNest := func(a, b api.Nest) bool { return a.Name == b.Name && slices.Equal(a.Loops, b.Loops) }
	sameBound := func(a, b api.Bound) bool {
		return a.Name == b.Name && slices.Equal(a.Row, b.Row) && sameValue(a.Value, b.Value) && a.Asked == b.Asked
	}
	return slices.EqualFunc(a.Cells, b.Cells, sameCell) && slices.EqualFunc(a.Loops, b.Loops, sameNest) && slices.EqualFunc(a.Bounds, b.Bounds, sameBound) && slices.EqualFunc(a.Rows, b.Rows, sameRows)
}
