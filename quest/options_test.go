package quest

import (
	"slices"
	"strconv"
	"testing"

	"canvass/api"
	"canvass/value"
)

const offeredText = `form offered 1
languages en
list kinds
  option 5 last
  option 1
  option 2
  option 9 last
  option 3
  option 4 alone
  option 7
list fixed
  option 2 last
  option 1 last
loop later count 3
  page l
    question lot choice kinds
page start
  question plain choice kinds
  question mixed choice kinds shuffle
  question all choices kinds 1 3 shuffle
  question still choice fixed shuffle
  question count number 0 9.5 places 1
  question word text 2 4
  question when day @1970-01-02 @1970-01-04
block steady
  page a
  page b
  compute c = 1
block turned shuffle
  page d
  page e
  block inner
    page f
  compute g = 1
  page h
block empty shuffle
loop kids count 2
  block rows shuffle
    page i
      question chosen choice kinds shuffle
        only option in all or row(kids) > 1 and option = plain
      question none choices kinds 0 1
        only false
      question seen choice kinds
        only asked(option) and answered(option) and reason(option) = 0 and code(option) < count
      question over choice kinds
        only any(later: option = lot and asked(lot))
    page j
`

func TestArranged(t *testing.T) {
	f := formOf(t, offeredText)
	for _, x := range []struct {
		name string
		row  []int
		n    int
		seed string // of the shuffle; empty: none
	}{
		{"steady", nil, 3, ""}, {"turned", nil, 5, "s|turned|"}, {"turned", []int{}, 5, "s|turned|"}, {"inner", nil, 1, ""}, {"empty", nil, 0, "s|empty|"}, {"rows", []int{1}, 2, "s|rows|1"}, {"rows", []int{999}, 2, "s|rows|999"},
	} {
		want := []int{0, 1, 2, 3, 4}[:x.n]
		if x.seed != "" {
			want, _ = value.Shuffle(x.seed, x.n)
		}
		if got, fault := Arranged(f, "s", x.name, x.row); !slices.Equal(got, want) || fault != api.OK {
			t.Error("Arranged", x.name, x.row, got, fault)
		}
	}
	for _, x := range []struct {
		name string
		row  []int
		want api.Fault
	}{
		{"nobody", nil, api.ErrName}, {"start", nil, api.ErrName}, {"kids", nil, api.ErrName}, {"plain", []int{1}, api.ErrName}, {"c", nil, api.ErrName}, {"", nil, api.ErrName},
		{"steady", []int{1}, api.ErrForm}, {"turned", []int{0}, api.ErrForm}, {"rows", nil, api.ErrForm}, {"rows", []int{1, 0}, api.ErrForm}, {"rows", []int{0}, api.ErrRange}, {"rows", []int{1000}, api.ErrRange}, {"rows", []int{-1}, api.ErrRange},
	} {
		if got, fault := Arranged(f, "s", x.name, x.row); len(got) > 0 || fault != x.want {
			t.Error("Arranged", x.name, x.row, got, fault)
		}
	}
	// The numbers of a row within several loops have full stops between.
	deep := formOf(t, "form f 1\nlanguages en\nloop a count 2\n  loop b count 2\n    loop c count 2\n      block d shuffle\n        page e\n        page g\n        page h\n        page i\n")
	for _, seed := range []string{"", "x", "a|b"} {
		want, _ := value.Shuffle(seed+"|d|12.3.45", 4)
		if got, fault := Arranged(deep, seed, "d", []int{12, 3, 45}); !slices.Equal(got, want) || fault != api.OK {
			t.Error("Arranged within loops", got, fault)
		}
	}
	f.Version = 0
	if got, fault := Arranged(f, "s", "nobody", nil); len(got) > 0 || fault != api.ErrRange {
		t.Error("Arranged of a wrong form", got, fault)
	}
}

// arrangedCodes returns the codes of kinds in the order of a seed: 5 and 9 keep their places.
func arrangedCodes(seed string) []int {
	order, _ := value.Shuffle(seed, 5)
	out, free := []int{5, 0, 0, 9, 0, 0, 0}, []int{1, 2, 3, 4, 7}
	for i, place := range []int{1, 2, 4, 5, 6} {
		out[place] = free[order[i]]
	}
	return out
}

func filtered(codes []int, stay ...int) []int {
	return slices.DeleteFunc(codes, func(code int) bool { return !slices.Contains(stay, code) })
}

func TestOptions(t *testing.T) {
	f := formOf(t, offeredText)
	s := sceneOf(t, f, bound("all", choicesValue(2, 3, 9)), bound("count", numberValue(40000)), bound("lot", choiceValue(4), 1), bound("lot", choiceValue(9), 2), api.Bound{Name: "lot", Row: []int{3}, Value: choiceValue(1)}, bound("plain", choiceValue(7)))
	s.Rows = []api.Rows{{Loop: "later", Numbers: []int{1, 2, 3}}}
	asIs := []int{5, 1, 2, 9, 3, 4, 7}
	for _, seed := range []string{"", "a", "b", "c", "d"} {
		for _, x := range []struct {
			name string
			row  []int
			want []int
		}{
			{"plain", nil, asIs}, {"mixed", nil, arrangedCodes(seed + "|mixed|")}, {"all", []int{}, arrangedCodes(seed + "|all|")}, {"still", nil, []int{2, 1}},
			{"chosen", []int{1}, filtered(arrangedCodes(seed+"|chosen|1"), 2, 3, 9)}, {"chosen", []int{2}, filtered(arrangedCodes(seed+"|chosen|2"), 2, 3, 9, 7)}, {"none", []int{1}, nil}, {"seen", []int{7}, []int{1, 2, 3}}, {"over", []int{7}, []int{9, 4}},
		} {
			if got, fault := Options(f, seed, x.name, x.row, s); !slices.Equal(got, x.want) || fault != api.OK {
				t.Error("Options", seed, x.name, x.row, got, fault)
			}
		}
	}
	// What is missing makes a condition false.
	if got, fault := Options(f, "", "chosen", []int{1}, sceneOf(t, f)); len(got) > 0 || fault != api.OK {
		t.Error("Options in an empty scene", got, fault)
	}
}

func TestOptionsErrors(t *testing.T) {
	f := formOf(t, offeredText)
	s := sceneOf(t, f)
	for _, x := range []struct {
		name string
		row  []int
		want api.Fault
	}{
		{"nobody", []int{0}, api.ErrName}, {"count", nil, api.ErrName}, {"word", nil, api.ErrName}, {"when", nil, api.ErrName}, {"c", nil, api.ErrName}, {"steady", nil, api.ErrName}, {"kinds", nil, api.ErrName}, {"option", nil, api.ErrName}, {"", nil, api.ErrName},
		{"plain", []int{1}, api.ErrForm}, {"plain", []int{0}, api.ErrForm}, {"chosen", nil, api.ErrForm}, {"chosen", []int{1, 2}, api.ErrForm}, {"chosen", []int{0}, api.ErrRange}, {"chosen", []int{1000}, api.ErrRange}, {"none", []int{-1}, api.ErrRange},
	} {
		if got, fault := Options(f, "s", x.name, x.row, s); len(got) > 0 || fault != x.want {
			t.Error("Options", x.name, x.row, got, fault)
		}
	}
	nested := spokenForm(t)
	for name, x := range wrongScenes(sceneOf(t, nested)) {
		if got, fault := Options(nested, "s", "pick", []int{0, 1}, x.scene); len(got) > 0 || fault != x.want {
			t.Error("Options in a wrong scene", name, got, fault)
		}
		if got, fault := Options(nested, "s", "age", nil, x.scene); len(got) > 0 || fault != api.ErrName {
			t.Error("Options of a number in a wrong scene", name, got, fault)
		}
	}
	nested.Name = ""
	if got, fault := Options(nested, "s", "nobody", nil, api.Scene{}); len(got) > 0 || fault != api.ErrName {
		t.Error("Options of a wrong form", got, fault)
	}
	nested.Name, nested.Version = "a", 0
	if got, fault := Options(nested, "s", "nobody", nil, api.Scene{}); len(got) > 0 || fault != api.ErrRange {
		t.Error("Options of a wrong form", got, fault)
	}
}

// TestFullScene has as many Bounds as a scene can have; the option is none of them.
func TestFullScene(t *testing.T) {
	f := formOf(t, `form f 1
languages en
list l
  option 1
  option 2
loop a count 20
  loop b count 20
    page p
      question q number 0 9
page r
  question s choice l
    only sum(a: sum(b: q)) = 20000 and option = #2
  question x choice l
`)
	s := sceneOf(t, f)
	all := make([]int, 999)
	for i := range all {
		all[i] = i + 1
	}
	for i := range api.MaxBounds {
		s.Bounds = append(s.Bounds, bound("q", numberValue(10000), 1+i/999, 1+i%999))
	}
	s.Rows = append(s.Rows, api.Rows{Loop: "a", Numbers: all[:21]})
	for i := range 21 {
		s.Rows = append(s.Rows, api.Rows{Loop: "b", Row: []int{i + 1}, Numbers: all})
	}
	if got, fault := Options(f, "", "s", nil, s); !slices.Equal(got, []int{2}) || fault != api.OK {
		t.Error("Options in a full scene", got, fault)
	}
	s.Bounds = append(s.Bounds, bound("x", choiceValue(1)))
	if got, fault := Options(f, "", "s", nil, s); len(got) > 0 || fault != api.ErrLarge {
		t.Error("Options in a scene that is too large", got, fault)
	}
}

func TestAccept(t *testing.T) {
	f := formOf(t, offeredText)
	itemOf(&f, "word").Answer.Reasons = []int{1, 3}
	itemOf(&f, "count").Answer.Need = true
	itemOf(&f, "count").Answer.Low = -10000
	itemOf(&f, "all").Answer.Need = true
	itemOf(&f, "all").Answer.Reasons = []int{2}
	offered := []int{4, 9, 1, 2}
	long := make([]byte, api.MaxText+1)
	for _, x := range []struct {
		name string
		v    api.Value
		want api.Fault
	}{
		{"nobody", api.Value{Kind: 9}, api.ErrName}, {"c", numberValue(0), api.ErrName}, {"start", api.Value{}, api.ErrName}, {"kinds", api.Value{}, api.ErrName}, {"option", choiceValue(1), api.ErrName}, {"", api.Value{}, api.ErrName},
		// Values that are not sound.
		{"count", api.Value{Kind: 8}, api.ErrKind}, {"count", api.Value{N: 1}, api.ErrForm}, {"word", api.Value{Kind: api.Number, S: "x"}, api.ErrForm}, {"word", specialValue(4), api.ErrRange}, {"word", textValue(string(long)), api.ErrLarge}, {"count", numberValue(api.MaxNumber + 1), api.ErrRange}, {"plain", choiceValue(0), api.ErrRange}, {"all", choicesValue(2, 1), api.ErrOrder}, {"count", choicesValue(2, 1), api.ErrOrder}, {"word", textValue("abcdefg\n"), api.ErrRange},
		// Missing and Special.
		{"word", api.Value{}, api.OK}, {"count", api.Value{}, api.ErrMissing}, {"all", api.Value{}, api.ErrMissing}, {"word", specialValue(1), api.OK}, {"word", specialValue(2), api.ErrType}, {"word", specialValue(3), api.OK}, {"count", specialValue(1), api.ErrType}, {"all", specialValue(2), api.OK}, {"all", specialValue(3), api.ErrType},
		// Kinds.
		{"word", numberValue(20000), api.ErrType}, {"count", textValue("abc"), api.ErrType}, {"plain", choicesValue(1), api.ErrType}, {"all", choiceValue(1), api.ErrType}, {"when", numberValue(2), api.ErrType}, {"count", dayValue(2), api.ErrType}, {"count", api.Value{Kind: api.Bool, N: 1}, api.ErrType}, {"word", textValue(""), api.ErrRange},
		// Numbers.
		{"count", numberValue(-10000), api.OK}, {"count", numberValue(-10001), api.ErrRange}, {"count", numberValue(95000), api.OK}, {"count", numberValue(96000), api.ErrRange}, {"count", numberValue(95001), api.ErrRange}, {"count", numberValue(1000), api.OK}, {"count", numberValue(100), api.ErrForm}, {"count", numberValue(1500), api.ErrForm}, {"count", numberValue(-1), api.ErrForm}, {"count", numberValue(-9000), api.OK}, {"count", numberValue(-9500), api.ErrForm}, {"count", numberValue(0), api.OK},
		// Texts and days.
		{"word", textValue("a"), api.ErrRange}, {"word", textValue("ab"), api.OK}, {"word", textValue("abcd"), api.OK}, {"word", textValue("abcde"), api.ErrRange}, {"when", dayValue(0), api.ErrRange}, {"when", dayValue(1), api.OK}, {"when", dayValue(3), api.OK}, {"when", dayValue(4), api.ErrRange},
		// Choice and Choices.
		{"plain", choiceValue(1), api.OK}, {"plain", choiceValue(3), api.ErrNone}, {"plain", choiceValue(999), api.ErrNone}, {"plain", choiceValue(4), api.OK}, {"all", choicesValue(), api.ErrRange}, {"all", choicesValue(1), api.OK}, {"all", choicesValue(1, 2, 9), api.OK}, {"all", choicesValue(1, 2, 4, 9), api.ErrRange}, {"all", choicesValue(1, 3), api.ErrNone}, {"all", choicesValue(3, 4), api.ErrNone}, {"all", choicesValue(4), api.OK}, {"all", choicesValue(1, 4), api.ErrConflict}, {"all", choicesValue(4, 9), api.ErrConflict},
	} {
		if fault := Accept(f, x.name, x.v, offered); fault != x.want {
			t.Error("Accept", x.name, x.v, fault)
		}
	}
	if fault := Accept(f, "plain", choiceValue(1), nil); fault != api.ErrNone {
		t.Error("Accept of nothing offered", fault)
	}
	if fault := Accept(f, "all", choicesValue(500, 600), []int{500, 600}); fault != api.OK {
		t.Error("Accept of what is offered, but not in the list", fault)
	}
	for places, fits := range []int{10000, 1000, 100, 10, 1} {
		itemOf(&f, "count").Answer.Places = places
		for n := 1; n <= 10000; n *= 10 {
			want := api.OK
			if n < fits {
				want = api.ErrForm
			}
			if fault := Accept(f, "count", numberValue(n), nil); fault != want {
				t.Error("Accept with", strconv.Itoa(places), "places", n, fault)
			}
		}
	}
	f.Version = 0
	if fault := Accept(f, "nobody", api.Value{Kind: 9}, nil); fault != api.ErrRange {
		t.Error("Accept of a wrong form", fault)
	}
}

// TestAcceptBy holds that the Answer and the options of a question are enough, as they are.
func TestAcceptBy(t *testing.T) {
	answer := api.Answer{Kind: api.Choices, High: 2, List: "nowhere", Reasons: []int{2}, Need: true}
	options := []api.Option{{Code: 8, Alone: true}, {Code: 4}, {Code: 6}}
	for _, x := range []struct {
		v    api.Value
		want api.Fault
	}{
		{choicesValue(), api.OK}, {choicesValue(8), api.OK}, {choicesValue(4, 6), api.OK}, {choicesValue(4, 8), api.ErrConflict}, {choicesValue(4, 6, 8), api.ErrRange}, {choicesValue(4, 5), api.ErrNone}, {choicesValue(6, 4), api.ErrOrder},
		{specialValue(2), api.OK}, {specialValue(1), api.ErrType}, {api.Value{}, api.ErrMissing}, {choiceValue(4), api.ErrType}, {api.Value{Kind: 8}, api.ErrKind},
	} {
		if fault := AcceptBy(answer, options, x.v, []int{8, 6, 4}); fault != x.want {
			t.Error("AcceptBy", x.v, fault)
		}
	}
}

// TestByItems holds that an item itself, with its options, is enough for the orders by chance.
func TestByItems(t *testing.T) {
	f := formOf(t, offeredText)
	s := sceneOf(t, f)
	options := f.Lists[0].Options
	for _, seed := range []string{"", "a", "b"} {
		for _, name := range []string{"steady", "turned", "inner", "empty", "rows"} {
			block, loops, _ := Find(f, name)
			row := []int{2, 3}[:len(loops)]
			want, _ := Arranged(f, seed, name, row)
			if got, fault := ArrangedBy(block, seed, row); !slices.Equal(got, want) || fault != api.OK {
				t.Error("ArrangedBy", seed, name, got, fault)
			}
		}
		for _, name := range []string{"plain", "mixed", "all"} {
			question, _, _ := Find(f, name)
			all, _ := Options(f, seed, name, nil, s)
			for _, stay := range [][]int{{1, 2, 3, 4, 5, 7, 9}, {9, 1, 7}, {8}, nil} {
				want := filtered(slices.Clone(all), stay...)
				isOffered := func(code int) bool { return slices.Contains(stay, code) }
				if got, fault := OptionsBy(question, options, seed, nil, isOffered); !slices.Equal(got, want) || fault != api.OK {
					t.Error("OptionsBy", seed, name, stay, got, fault)
				}
			}
		}
	}
	block := api.Item{Kind: api.ItemBlock, Shuffle: true, Items: make([]api.Item, api.MaxDraws+1)}
	if got, fault := ArrangedBy(block, "", nil); len(got) > 0 || fault != api.ErrRange {
		t.Error("ArrangedBy of too many items", fault)
	}
	question := api.Item{Kind: api.ItemQuestion, Answer: api.Answer{Shuffle: true}}
	if got, fault := OptionsBy(question, make([]api.Option, api.MaxDraws+1), "", nil, func(int) bool { return true }); len(got) > 0 || fault != api.ErrRange {
		t.Error("OptionsBy of too many options", fault)
	}
	// A row distinguishes the orders of rows.
	question.Name = "x"
	want, _ := value.Shuffle("s|x|1.20", 7)
	got, fault := OptionsBy(question, []api.Option{{Code: 1}, {Code: 2}, {Code: 3}, {Code: 4}, {Code: 5}, {Code: 6}, {Code: 7}}, "s", []int{1, 20}, func(int) bool { return true })
	for i := range want {
		if fault != api.OK || got[i] != want[i]+1 {
			t.Error("OptionsBy for a row", got, fault)
		}
	}
}
