package study

import (
	"fmt"
	"math/big"
	"math/rand"
	"slices"
	"strings"
	"testing"

	"canvass/api"
	"canvass/interview"
	"canvass/quest"
	"canvass/value"
)

// pick returns one of some elements.
func pick[T any](r *rand.Rand, l ...T) T { return l[r.Intn(len(l))] }

// randomValue returns a value for a kind of cells, now and then one that is not.
func randomValue(r *rand.Rand, kind int) api.Value {
	if r.Intn(12) == 0 {
		kind = pick(r, api.Missing, api.Special, api.Number, api.Text, api.Choice, api.Choices, api.Day)
	}
	switch kind {
	case api.Special:
		return api.Value{Kind: api.Special, N: 1 + r.Intn(3)}
	case api.Number:
		return api.Value{Kind: api.Number, N: pick(r, 10000, 10000, 5000, 1, -10000) * r.Intn(pick(r, 4, 10, 120))}
	case api.Text:
		return api.Value{Kind: api.Text, S: strings.Repeat(pick(r, "x", "'", " a"), r.Intn(5))}
	case api.Choice:
		return api.Value{Kind: api.Choice, N: 1 + r.Intn(pick(r, 2, 2, 9))}
	case api.Choices:
		v := api.Value{Kind: api.Choices}
		for _, code := range []int{1, 3, 4, 5, 6, 7, 9} {
			if r.Intn(4) == 0 {
				v.Set = append(v.Set, code)
			}
		}
		return v
	case api.Day:
		return api.Value{Kind: api.Day, N: r.Intn(20000)}
	}
	return api.Value{}
}

// randomGiven returns sound given answers of a form.
func randomGiven(t *testing.T, r *rand.Rand, f api.Form) []api.Given {
	t.Helper()
	cells, _, fault := quest.Cells(f)
	if fault != api.OK {
		t.Fatal("Cells", fault)
	}
	var out []api.Given
	for _, cell := range cells {
		if item, _, _ := quest.Find(f, cell.Name); item.Kind != api.ItemQuestion {
			continue
		}
		known := map[string]bool{}
		for range pick(r, 0, 1, 1, 1) + r.Intn(1+4*len(cell.Loops)) {
			k := api.Key{Name: cell.Name}
			for range cell.Loops {
				k.Row = append(k.Row, 1+r.Intn(pick(r, 2, 3, 9)))
			}
			if !known[keyText(k)] {
				out = append(out, api.Given{Key: k, Value: randomValue(r, cell.Kind)})
			}
			known[keyText(k)] = true
		}
	}
	r.Shuffle(len(out), func(i, j int) { out[i], out[j] = out[j], out[i] })
	return out
}

func randomData(t *testing.T, r *rand.Rand, f api.Form, count int) []api.Datum {
	t.Helper()
	var out []api.Datum
	id := 0
	limit, most := pick(r, int64(1), 3, 1000, 999999999999), pick(r, int64(1), 2, 10, 10, 999999999999)
	for range count {
		id += 1 + r.Intn(3)
		weight := big.NewRat(1+r.Int63n(limit), 1+r.Int63n(most))
		out = append(out, api.Datum{Id: id, Seed: fmt.Sprint("s'", r.Intn(5)), Weight: ratioBy(weight), Given: randomGiven(t, r, f)})
	}
	return out
}

// countBy is T4 and T5 by their words. Numbers are in their ratios of any length.
func countBy(t *testing.T, f api.Form, table api.Table, l []api.Datum) api.Counted {
	t.Helper()
	var scenes []api.Scene
	for _, d := range l {
		s, fault := interview.SceneOf(f, d.Seed, d.Given)
		if fault != api.OK {
			t.Fatal("SceneOf", fault)
		}
		scenes = append(scenes, s)
	}
	is := func(e api.Expr, n int) bool {
		v, fault := value.Eval(e, scenes[n], nil, nil)
		if fault != api.OK {
			t.Fatal("Eval", fault)
		}
		return v.N == 1
	}
	isIn := func(n int, lines ...api.Line) bool {
		for _, base := range table.Base {
			if !is(base, n) {
				return false
			}
		}
		return !slices.ContainsFunc(lines, func(line api.Line) bool { return !is(line.If, n) })
	}
	sum := func(tell func(n int) *big.Rat, lines ...api.Line) (int, *big.Rat) {
		count, out := 0, new(big.Rat)
		for n := range l {
			if isIn(n, lines...) {
				if x := tell(n); x != nil {
					count, out = count+1, add(out, x)
				}
			}
		}
		return count, out
	}
	weight := func(n int) *big.Rat { return rat(l[n].Weight) }
	var out api.Counted
	for _, column := range table.Columns {
		var c api.ColumnTotal
		count, all := sum(weight, column)
		_, squares := sum(func(n int) *big.Rat { return mul(weight(n), weight(n)) }, column)
		c.Cases, c.Sum, c.Effective = count, ratioBy(all), ratioBy(part(mul(all, all), squares))
		ofValue := func(n int) *big.Rat {
			for _, of := range table.Of {
				v, fault := value.Eval(of, scenes[n], nil, nil)
				if fault != api.OK {
					t.Fatal("Eval", fault)
				}
				if v.Kind != api.Missing {
					exact, _ := value.Exact(v)
					return rat(exact)
				}
			}
			return nil
		}
		known, knownSum := sum(func(n int) *big.Rat {
			if ofValue(n) == nil {
				return nil
			}
			return weight(n)
		}, column)
		_, values := sum(func(n int) *big.Rat {
			x := ofValue(n)
			if x == nil {
				return nil
			}
			return mul(x, weight(n))
		}, column)
		c.Known, c.KnownSum, c.Mean = known, ratioBy(knownSum), ratioBy(part(values, knownSum))
		out.Totals = append(out.Totals, c)
	}
	for _, row := range table.Rows {
		var cells []api.TableCell
		for i, column := range table.Columns {
			count, all := sum(weight, row, column)
			cells = append(cells, api.TableCell{Cases: count, Sum: ratioBy(all), Part: ratioBy(part(all, rat(out.Totals[i].Sum)))})
		}
		out.Cells = append(out.Cells, cells)
	}
	for i := range out.Cells {
		for j := range out.Cells[i] {
			if table.Test {
				out.Cells[i][j].Above = aboveBy(out, i, j)
			}
		}
	}
	return out
}

// part returns a / b, or 0 if b is 0.
func part(a, b *big.Rat) *big.Rat {
	if b.Sign() == 0 {
		return b
	}
	return new(big.Rat).Quo(a, b)
}

// isLong reports whether a ratio of a table is not within MaxDigits.
func isLong(c api.Counted) bool {
	for _, total := range c.Totals {
		if !fits(total.Sum) || !fits(total.Effective) || !fits(total.KnownSum) || !fits(total.Mean) {
			return true
		}
	}
	for _, row := range c.Cells {
		for _, cell := range row {
			if !fits(cell.Sum) || !fits(cell.Part) {
				return true
			}
		}
	}
	return false
}

// showBy is T6 by its words.
func showBy(table api.Table, c api.Counted, places int) string {
	decimal := func(x *big.Rat) string {
		text := x.FloatString(places)
		if strings.Trim(text, "-0.") == "" {
			text = strings.TrimPrefix(text, "-")
		}
		return text
	}
	lines := []string{"", "cases", "weighted"}
	for i, column := range table.Columns {
		lines[0] += "\t" + column.Title
		lines[1] += fmt.Sprint("\t", c.Totals[i].Cases)
		lines[2] += "\t" + decimal(rat(c.Totals[i].Sum))
	}
	for n, row := range table.Rows {
		text := row.Title
		for _, cell := range c.Cells[n] {
			text += "\t" + decimal(mul(rat(cell.Part), big.NewRat(100, 1)))
			for _, k := range cell.Above {
				text += fmt.Sprint("+", k+1)
			}
		}
		lines = append(lines, text)
	}
	if len(table.Of) > 0 {
		text := "mean"
		for _, total := range c.Totals {
			text += "\t" + decimal(rat(total.Mean))
		}
		lines = append(lines, text)
	}
	return strings.Join(lines, "\n") + "\n"
}

// TestTablesByChance holds Count and Show against second makings of them by the listed functions of lower layers.
func TestTablesByChance(t *testing.T) {
	f := formOf(t, homeLines)
	conds := []string{"true", "sex = #1", "sex <> #1", "sex in {#2}", "grown", "age >= 10 and not grown", "likes has #7", "size(likes) = 2", "answered(note)", "any(row: kid > 3)", "kids > 0", "reason(sex) = 2", "born > @1980-01-01", "any(like: any(deep: long > 1))", "asked(kids) and kids < 2", "false", "answered(sex)", "not answered(sex)", "answered(age) or sex = #2", "not answered(age)", "answered(born)", "not answered(born) or likes = {}"}
	numbers := []string{"age", "kids", "sum(row: kid)", "size(likes) - age", "if(grown, 1, kids)", "most(row: kid) / 3"}
	long, above := 0, 0
	for seed := range int64(120) {
		r := rand.New(rand.NewSource(seed))
		l := randomData(t, r, f, pick(r, r.Intn(4), r.Intn(40), 250))
		table := api.Table{Test: r.Intn(2) == 0}
		for i := range 1 + r.Intn(4) {
			table.Rows = append(table.Rows, line(t, fmt.Sprint("r", i, ": ", pick(r, conds...))))
		}
		for i := range 1 + r.Intn(4) {
			table.Columns = append(table.Columns, line(t, fmt.Sprint("c", i, ": ", pick(r, conds...))))
		}
		if r.Intn(3) == 0 {
			table.Base = []api.Expr{expr(t, pick(r, conds...))}
		}
		if r.Intn(2) == 0 {
			table.Of = []api.Expr{expr(t, pick(r, numbers...))}
		}
		want := countBy(t, f, table, l)
		got, fault := Count(f, table, l)
		if isLong(want) {
			long++
			refuses(t, "long", api.ErrLarge, got, fault)
			continue
		}
		is(t, fmt.Sprint("Count ", seed), show(got, fault), show(want, api.OK))
		above += strings.Count(show(got), "+")
		places := r.Intn(7)
		text, fault := Show(f, table, l, places)
		is(t, fmt.Sprint("Show ", seed), fmt.Sprint(text, fault), fmt.Sprint(showBy(table, want, places), 0))
	}
	if above < 10 || long < 2 {
		t.Error("few columns are above others, or few tables are long", above, long)
	}
}

// TestTextsByChance holds that the text of a data set is read again, and that a text that is changed somewhere is read only if it is the text of what is read.
func TestTextsByChance(t *testing.T) {
	f := formOf(t, homeLines)
	read, refused := 0, map[api.Fault]int{}
	for seed := range int64(300) {
		r := rand.New(rand.NewSource(seed))
		l := randomData(t, r, f, r.Intn(5))
		text, fault := DataText(f, l)
		refuses(t, "DataText", api.OK, text, fault)
		again, line, fault := ReadData(f, text)
		is(t, "ReadData", fmt.Sprint(dataText(again), line, fault), fmt.Sprint(dataText(l), 0, 0))
		for range 30 {
			bytes := []byte(text)
			for range 1 + r.Intn(2) {
				at := r.Intn(len(bytes) + 1)
				more := []byte{pick[byte](r, ' ', '\n', '\'', '#', '.', '-', '/', '0', '1', '9', 'a', '_', '{', ',')}
				bytes = slices.Concat(bytes[:at], more[:r.Intn(2)], bytes[min(len(bytes), at+r.Intn(2)):])
			}
			other := string(bytes)
			again, line, fault := ReadData(f, other)
			refused[fault]++
			if fault == api.OK {
				read++
				back, _ := DataText(f, again)
				is(t, "a text that is read", back, strings.TrimSuffix(other, "\n")+strings.Repeat("\n", min(1, len(other))))
				continue
			}
			if len(again) > 0 || fault != api.ErrSyntax && line != 0 {
				t.Error("with a fault there is a result", fault, line)
			}
			lines := strings.SplitAfter(other, "\n")
			if fault == api.ErrSyntax {
				if _, n, early := ReadData(f, strings.Join(lines[:line], "")); early == api.ErrSyntax {
					t.Errorf("%q: line %d, but %d of the lines ahead of it", other, line, n)
				}
				if _, n, now := ReadData(f, strings.Join(lines[:line+1], "")); now != api.ErrSyntax || n != line {
					t.Errorf("%q: line %d, but with the lines up to it %d", other, line, n)
				}
			}
		}
	}
	if read < 500 || refused[api.ErrSyntax] < 500 || refused[api.ErrName] == 0 || refused[api.ErrOrder] == 0 {
		t.Error("read", read, refused)
	}
}

// randomVersion returns a version of a form with changes of lists, kinds, names and loops.
func randomVersion(t *testing.T, r *rand.Rand) api.Form {
	t.Helper()
	text := oldLines
	for _, x := range [][2]string{
		{`1 "man"`, `1 "male"`}, {`2 "woman"`, `9 "woman"`}, {"  option 7\n", ""}, {`4 "sweet"`, `4 alone "sweet"`}, {"tastes 0 4", "tastes 1 2"}, {"age number 0 120 places 1", "age number 18 99"},
		{"question note text", "question remark text"}, {"question kids number 0 9", "question kids number 0 3"}, {"question gone number 0 9", "question gone text 0 9"}, {"loop row count", "loop line count"},
		{"question toy", "question thing"}, {"reasons refused", "reasons dontknow"}, {"question sex choice", "question gender choice"}, {"question kid number", "question child number"}, {"  question born day @1900-01-01 @2020-12-31\n", ""},
	} {
		if r.Intn(4) == 0 {
			text = strings.ReplaceAll(text, x[0], x[1])
		}
	}
	if strings.Contains(text, "question gender") {
		text = strings.ReplaceAll(text, "answered(sex)", "true")
	}
	return formOf(t, text)
}

// carryBy is T10 by its words, for maps that CheckMaps accepts.
func carryBy(a, b api.Form, maps []api.Map, g api.Given) (api.Given, int) {
	m := api.Map{To: g.Key.Name}
	for _, one := range maps {
		if one.From == g.Key.Name {
			m = one
		}
	}
	before, loops, _ := quest.Find(a, g.Key.Name)
	after, places, fault := quest.Find(b, m.To)
	if fault != api.OK || after.Kind != api.ItemQuestion {
		return api.Given{}, api.LostQuestion
	}
	if before.Answer.Kind != after.Answer.Kind {
		return api.Given{}, api.LostKind
	}
	if !slices.Equal(loops, places) {
		return api.Given{}, api.LostPlace
	}
	out := api.Given{Key: api.Key{Name: m.To, Row: g.Key.Row}, Value: g.Value}
	codes, known := map[int]bool{}, slices.Clone(g.Value.Set)
	if g.Value.Kind == api.Choice {
		known = []int{g.Value.N}
	}
	for _, code := range known {
		next := codeBy(a, b, before.Answer.List, after.Answer.List, m, code)
		if next == 0 || codes[next] {
			return api.Given{}, api.LostOption
		}
		codes[next] = true
		out.Value.N = next
	}
	if g.Value.Kind == api.Choices {
		out.Value = api.Value{Kind: api.Choices}
		for code := range 1000 {
			if codes[code] {
				out.Value.Set = append(out.Value.Set, code)
			}
		}
	}
	if g.Value.Kind != api.Missing && quest.Accept(b, m.To, out.Value, codesOf(b, after.Answer.List)) != api.OK {
		return api.Given{}, api.LostValue
	}
	return out, 0
}

// codeBy returns the new code for an old one; 0: there is none.
func codeBy(a, b api.Form, old, next string, m api.Map, code int) int {
	for _, move := range m.Codes {
		if move.From == code {
			return move.To
		}
	}
	for _, first := range optionsOf(a, old) {
		for _, second := range optionsOf(b, next) {
			if first.Code == code && second.Code == code && slices.Equal(first.Phrase, second.Phrase) {
				return code
			}
		}
	}
	return 0
}

func optionsOf(f api.Form, name string) []api.Option {
	for _, list := range f.Lists {
		if list.Name == name {
			return list.Options
		}
	}
	return nil
}

func codesOf(f api.Form, name string) []int {
	var out []int
	for _, o := range optionsOf(f, name) {
		out = append(out, o.Code)
	}
	return out
}

// TestCarryByChance holds Carry against a second making, that what is carried are sound answers of the new form, and that maps that Suggest returns are right.
func TestCarryByChance(t *testing.T) {
	kinds := map[int]int{}
	for seed := range int64(600) {
		r := rand.New(rand.NewSource(seed))
		a, b := randomVersion(t, r), randomVersion(t, r)
		maps, fault := Suggest(a, b)
		refuses(t, "Suggest", api.OK, maps, fault)
		if r.Intn(3) == 0 {
			maps = append(maps, mapsOf(t, pick(r, "taste taste 4>6 6>4 5>0", "taste taste 5>7", "age age", "kids age", "sex gender 1>9", "toy toy 1>3 3>1", "toy sex"))...)
			slices.SortFunc(maps, func(x, y api.Map) int { return strings.Compare(x.From, y.From) })
		} else {
			refuses(t, "CheckMaps of Suggest", api.OK, CheckMaps(a, b, maps))
		}
		given := randomGiven(t, r, a)
		carried, lost, fault := Carry(a, b, maps, given)
		if want := CheckMaps(a, b, maps); want != api.OK {
			refuses(t, "Carry", want, carried, lost, fault)
			continue
		}
		var wantCarried []api.Given
		var wantLost []api.Lost
		for _, g := range given {
			next, kind := carryBy(a, b, maps, g)
			kinds[kind]++
			if kind == 0 {
				wantCarried = append(wantCarried, next)
			} else {
				wantLost = append(wantLost, api.Lost{Key: g.Key, Kind: kind})
			}
		}
		is(t, fmt.Sprint("Carry ", seed), fmt.Sprint(answersText(carried), ";", lostText(lost), fault), fmt.Sprint(answersText(wantCarried), ";", lostText(wantLost), 0))
		if _, fault := interview.RouteOf(b, "s", carried); fault != api.OK {
			t.Error("what is carried is not sound", fault)
		}
	}
	for kind := range 6 {
		if kinds[kind] < 20 {
			t.Error("few answers of a kind", kinds)
		}
	}
}

// aboveBy is T5 by its words.
func aboveBy(c api.Counted, row, j int) []int {
	var out []int
	one, thirty := big.NewRat(1, 1), big.NewRat(30, 1)
	n, p := rat(c.Totals[j].Effective), rat(c.Cells[row][j].Part)
	for k := range c.Totals {
		m, q := rat(c.Totals[k].Effective), rat(c.Cells[row][k].Part)
		if n.Cmp(thirty) < 0 || m.Cmp(thirty) < 0 || p.Cmp(q) <= 0 {
			continue
		}
		r := add(mul(n, p), mul(m, q))
		r.Quo(r, add(n, m))
		gap := new(big.Rat).Sub(p, q)
		bound := mul(big.NewRat(2401, 625), mul(r, new(big.Rat).Sub(one, r)))
		bound.Mul(bound, add(new(big.Rat).Inv(n), new(big.Rat).Inv(m)))
		if mul(gap, gap).Cmp(bound) > 0 {
			out = append(out, k)
		}
	}
	return out
}

func add(a, b *big.Rat) *big.Rat { return new(big.Rat).Add(a, b) }

func mul(a, b *big.Rat) *big.Rat { return new(big.Rat).Mul(a, b) }
