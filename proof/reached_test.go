package proof

import (
	"slices"
	"strings"
	"testing"

	"canvass/api"
)

const reachedLines = `page p
  question a choice two
  question n number 0 9 places 1
    if a = #1
  compute k = n > 5
  compute m = asked(n)
    if a = #1
block b
  if k
  page q
    question s choices mix 0 3
    compute o = not asked(m)
  end e
    if s has #3
  page r
    if not m
page u
  if not k
  question w text 0 5
    if not m
compute z = answered(k) and not answered(m)
end last
  if a = #2 or reason(a) = 2
page x
`

func TestReachedItems(t *testing.T) {
	f := pagesOf(t, reachedLines)
	for _, x := range []struct {
		l    []api.Given
		want string
	}{
		{nil, "p a k u w z x"},
		{[]api.Given{}, "p a k u w z x"},
		{[]api.Given{given("a", choiceValue(1))}, "p a n k m u z x"},
		// A question that is not reached has no value.
		{[]api.Given{given("a", choiceValue(2)), given("n", numberValue(60000)), given("s", choicesValue(3))}, "p a k u w z last"},
		{[]api.Given{given("a", choiceValue(1)), given("n", numberValue(60000))}, "p a n k m b q s o x z"},
		{[]api.Given{given("n", numberValue(60000)), given("a", choiceValue(1)), given("s", choicesValue(3, 5))}, "p a n k m b q s o e"},
		// Values need not be permitted.
		{[]api.Given{given("a", choiceValue(1)), given("n", numberValue(999999)), given("s", choicesValue(3, 888))}, "p a n k m b q s o e"},
		{[]api.Given{given("a", specialValue(2))}, "p a k u w z last"},
		{[]api.Given{given("a", specialValue(1)), given("w", api.Value{})}, "p a k u w z x"},
	} {
		want := strings.Fields(x.want)
		items, _ := preorder(f.Items, "")
		var inOrder []string
		for _, item := range items {
			if slices.Contains(want, item.Name) {
				inOrder = append(inOrder, item.Name)
			}
		}
		if got, fault := Reached(f, x.l); !slices.Equal(got, inOrder) || fault != api.OK {
			t.Error("Reached", wordsOf(x.l), got, inOrder, fault)
		}
	}
}

func TestAnswerFaults(t *testing.T) {
	f := pagesOf(t, reachedLines)
	at := func(name string, v api.Value, row ...int) api.Given {
		return api.Given{Key: api.Key{Name: name, Row: row}, Value: v}
	}
	unknown := api.Value{Kind: 99}
	for _, x := range []struct {
		l    []api.Given
		want api.Fault
	}{
		{[]api.Given{at("nobody", unknown, 1)}, api.ErrName}, {[]api.Given{at("p", unknown, 1)}, api.ErrName}, {[]api.Given{at("k", unknown)}, api.ErrName}, {[]api.Given{at("option", choiceValue(1))}, api.ErrName}, {[]api.Given{at("", choiceValue(1))}, api.ErrName},
		{[]api.Given{at("a", unknown, 1)}, api.ErrForm}, {[]api.Given{at("a", choiceValue(1)), at("a", unknown, 0)}, api.ErrForm},
		{[]api.Given{at("a", choiceValue(1)), at("n", numberValue(0)), at("a", unknown)}, api.ErrTwice}, {[]api.Given{at("a", api.Value{}), at("a", api.Value{})}, api.ErrTwice},
		{[]api.Given{at("a", unknown)}, api.ErrKind}, {[]api.Given{at("a", api.Value{N: 1})}, api.ErrForm}, {[]api.Given{at("a", choiceValue(0))}, api.ErrRange}, {[]api.Given{at("n", choicesValue(2, 1))}, api.ErrOrder}, {[]api.Given{at("n", specialValue(4))}, api.ErrRange},
		{[]api.Given{at("a", numberValue(0))}, api.ErrType}, {[]api.Given{at("a", choicesValue(1))}, api.ErrType}, {[]api.Given{at("s", choiceValue(1))}, api.ErrType}, {[]api.Given{at("n", dayValue(1))}, api.ErrType}, {[]api.Given{at("w", api.Value{Kind: api.Bool})}, api.ErrType},
		// Each element is examined for all errors ahead of the next one.
		{[]api.Given{at("a", numberValue(0)), at("nobody", unknown)}, api.ErrType}, {[]api.Given{at("a", choiceValue(1)), at("nobody", unknown), at("a", numberValue(0))}, api.ErrName},
	} {
		if got, fault := Reached(f, x.l); got != nil || fault != x.want {
			t.Error("Reached", x.l, got, fault)
		}
		if got, fault := Possible(f, x.l); got || fault != x.want {
			t.Error("Possible", x.l, got, fault)
		}
	}
}

func TestPossibleAnswers(t *testing.T) {
	for _, x := range []struct {
		lines        string
		right, wrong [][]api.Given
	}{
		{"page p\n  question a choice two need reasons refused\n",
			[][]api.Given{{given("a", choiceValue(1))}, {given("a", specialValue(2))}},
			[][]api.Given{nil, {given("a", api.Value{})}, {given("a", specialValue(1))}, {given("a", choiceValue(3))}}},
		{"page p\n  question a choice two\n  question n number -1 1 places 1 need\n    if a = #1\n",
			[][]api.Given{nil, {given("a", choiceValue(2))}, {given("a", choiceValue(2)), given("n", numberValue(999))}, {given("a", choiceValue(1)), given("n", numberValue(-9000))}},
			[][]api.Given{{given("a", choiceValue(1))}, {given("a", choiceValue(1)), given("n", numberValue(-9500))}, {given("a", choiceValue(1)), given("n", numberValue(11000))}}},
		// An option that is Alone.
		{"page p\n  question s choices mix 1 2\n",
			[][]api.Given{nil, {given("s", choicesValue(3))}, {given("s", choicesValue(5, 7))}},
			[][]api.Given{{given("s", choicesValue())}, {given("s", choicesValue(3, 5))}}},
		// Only what is offered; the question is stuck if that is nothing.
		{"page p\n  question a choice two\n  question b choice two need\n    only a = #1 and option = #2\n",
			[][]api.Given{nil, {given("a", choiceValue(1)), given("b", choiceValue(2))}, {given("a", choiceValue(2))}, {given("b", api.Value{})}},
			[][]api.Given{{given("a", choiceValue(1)), given("b", choiceValue(1))}, {given("a", choiceValue(1))}, {given("a", choiceValue(2)), given("b", choiceValue(2))}, {given("b", specialValue(1))}}},
		// It is not stuck if it has a reason, or needs nothing.
		{"page p\n  question b choice two need reasons dontknow\n    only false\n",
			[][]api.Given{{given("b", specialValue(1))}},
			[][]api.Given{nil, {given("b", specialValue(2))}}},
		{"page p\n  question b choice two\n    only false\n",
			[][]api.Given{nil},
			[][]api.Given{{given("b", choiceValue(1))}}},
		{"page p\n  question b choice two need\n    only false\n",
			[][]api.Given{nil},
			[][]api.Given{{given("b", choiceValue(1))}, {given("b", choiceValue(9))}}},
		// Too few options are left, or those that are left exclude one another.
		{"page p\n  question b choices mix 2 3 need\n    only option = #5\n", [][]api.Given{nil}, [][]api.Given{{given("b", choicesValue(5))}}},
		{"page p\n  question b choices mix 2 3 need\n    only option <> #7\n", [][]api.Given{nil}, [][]api.Given{{given("b", choicesValue(3, 5))}}},
		{"page p\n  question b choices mix 0 3 need\n    only false\n", [][]api.Given{{given("b", choicesValue())}}, [][]api.Given{nil}},
		// No number has so few digits, and is needed.
		{"page p\n  question n number 0.5 0.7 need\n", [][]api.Given{nil}, [][]api.Given{{given("n", numberValue(6000))}}},
		{"page p\n  question n number 0.5 0.7 need\n    if false\n", [][]api.Given{nil, {given("n", numberValue(6000))}}, nil},
		{"page p\n  question w text 1 2 need\n", [][]api.Given{{given("w", textValue("ab"))}}, [][]api.Given{nil, {given("w", textValue(""))}, {given("w", textValue("abc"))}}},
		{"page p\n  question d day @1970-01-03 @1970-01-05 need\n", [][]api.Given{{given("d", dayValue(2))}, {given("d", dayValue(4))}}, [][]api.Given{nil, {given("d", dayValue(1))}, {given("d", dayValue(5))}}},
	} {
		f := pagesOf(t, x.lines)
		for i, lists := range [][][]api.Given{x.right, x.wrong} {
			for _, l := range lists {
				if got, fault := Possible(f, l); got != (i == 0) || fault != api.OK {
					t.Error("Possible", x.lines, wordsOf(l), got, fault)
				}
			}
		}
	}
}
