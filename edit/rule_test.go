package edit

import (
	"fmt"
	"math"
	"slices"
	"testing"

	"canvass/api"
)

func TestFails(t *testing.T) {
	p := planWith(t, "field a 1,2,3", "field b 5,6", "edit e: a 1,2; b 5", "edit f: a 3", "edit g: b 5", "edit h: a 2; b 5,6", "edit i: a 3; b 6")
	for _, x := range []struct {
		record []int
		fails  string
		passes bool
	}{
		{[]int{1, 5}, "[0 2]", false}, {[]int{2, 5}, "[0 2 3]", false}, {[]int{3, 5}, "[1 2]", false}, {[]int{1, 6}, "[]", true}, {[]int{2, 6}, "[3]", false}, {[]int{3, 6}, "[1 4]", false},
		// A value that is not valid is in no set, and the record does not pass.
		{[]int{0, 5}, "[]", false}, {[]int{1, 0}, "[]", false}, {[]int{4, 6}, "[]", false}, {[]int{5, 5}, "[]", false}, {[]int{0, 0}, "[]", false}, {[]int{999, 999}, "[]", false},
	} {
		fails, fault := Fails(p, x.record)
		is(t, fmt.Sprint("Fails ", x.record), show(fails, fault), x.fails+" 0")
		passes, fault := Passes(p, x.record)
		is(t, fmt.Sprint("Passes ", x.record), show(passes, fault), show(x.passes, 0))
	}
	p.Edits = nil
	passes, fault := Passes(p, []int{1, 5})
	is(t, "Passes without edits", show(passes, fault), "true 0")
	passes, fault = Passes(p, []int{1, 1})
	is(t, "Passes without edits, not valid", show(passes, fault), "false 0")
	p = planWith(t, "field a 1,2", "edit e:")
	fails, fault := Fails(p, []int{2})
	is(t, "Fails an edit with full sets", show(fails, fault), "[0] 0")
	fails, fault = Fails(p, []int{3})
	is(t, "Fails an edit with full sets, not valid", show(fails, fault), "[] 0")
}

// TestManyEdits holds that all of the greatest number of edits count.
func TestManyEdits(t *testing.T) {
	lines := []string{"field a 1,2", "field b 1,2"}
	for n := range api.MaxEdits {
		lines = append(lines, fmt.Sprintf("edit e%d: a 1; b %d", n, 1+n%2))
	}
	fails, fault := Fails(planWith(t, lines...), []int{1, 2})
	if len(fails) != 30 || fails[0] != 1 || fails[29] != 59 || fault != api.OK {
		t.Error("Fails", fails, fault)
	}
	redundant, fault := Redundant(planWith(t, lines...))
	if !slices.Equal(redundant, upTo(58).numbers()) || fault != api.OK {
		t.Error("Redundant", redundant, fault)
	}
}

func TestFirst(t *testing.T) {
	p := planWith(t, "field a 1,2,3", "field b 5,6", "field c 1,9", "edit e: a 1", "edit f: a 2; b 5", "edit g: b 6; c 1")
	for _, x := range []struct {
		record, free []int
		want         string
	}{
		{[]int{3, 5, 9}, nil, "[3 5 9] true"}, {[]int{1, 5, 9}, nil, "[] false"}, {[]int{3, 5, 2}, nil, "[] false"}, {[]int{0, 5, 1}, nil, "[] false"},
		{[]int{1, 5, 9}, []int{0}, "[3 5 9] true"}, {[]int{1, 6, 9}, []int{0}, "[2 6 9] true"}, {[]int{1, 6, 1}, []int{0}, "[] false"}, {[]int{0, 5, 1}, []int{0}, "[3 5 1] true"},
		{[]int{2, 6, 9}, []int{0, 1, 2}, "[2 6 9] true"}, {[]int{3, 5, 1}, []int{0, 1, 2}, "[2 6 9] true"}, {[]int{0, 0, 0}, []int{0, 1, 2}, "[2 6 9] true"},
		{[]int{3, 0, 0}, []int{1, 2}, "[3 5 1] true"}, {[]int{1, 0, 0}, []int{1, 2}, "[] false"}, {[]int{4, 5, 9}, []int{1, 2}, "[] false"}, {[]int{1, 0, 1}, []int{0, 1}, "[3 5 1] true"}, {[]int{1, 5, 9}, []int{0, 2}, "[3 5 1] true"}, {[]int{3, 5, 9}, []int{2}, "[3 5 1] true"},
	} {
		first, is1, fault := First(p, x.record, x.free)
		is(t, fmt.Sprint("First ", x.record, x.free), show(first, is1, fault), x.want+" 0")
	}
	p = planWith(t, "field a 1,2", "field b 4")
	first, is1, fault := First(p, []int{0, 5}, []int{0})
	is(t, "First without edits, not valid", show(first, is1, fault), "[] false 0")
	first, is1, fault = First(p, []int{2, 5}, []int{1})
	is(t, "First without edits", show(first, is1, fault), "[2 4] true 0")
}

func TestFirstFaults(t *testing.T) {
	p := threeFields()
	for _, x := range []struct {
		free []int
		want api.Fault
	}{
		{[]int{0, 1, 2}, api.OK}, {[]int{-1}, api.ErrRange}, {[]int{3}, api.ErrRange}, {[]int{math.MaxInt}, api.ErrRange}, {[]int{math.MinInt}, api.ErrRange}, {[]int{1, 0}, api.ErrOrder}, {[]int{0, 0}, api.ErrOrder}, {[]int{1, 1, 3}, api.ErrOrder}, {[]int{1, 3, 1}, api.ErrRange}, {[]int{2, -1}, api.ErrRange},
	} {
		first, is, fault := First(p, []int{1, 5, 1}, x.free)
		refuses(t, fmt.Sprint("First ", x.free), x.want, first, is, fault)
	}
	first, is, fault := First(p, []int{1, 5, 1000}, []int{1, 0})
	refuses(t, "First of a wrong record", api.ErrRange, first, is, fault)
	first, is, fault = First(p, []int{1, 5}, []int{-1})
	refuses(t, "First of a wrong record", api.ErrForm, first, is, fault)
}

func TestPrimes(t *testing.T) {
	for _, x := range []struct {
		what  string
		lines []string
		want  string
	}{
		{"no edits", []string{"field a 1,2"}, "[] 0"},
		{"the example", []string{"field sex 1,2", "field pregnant 1,2", "edit p: sex 1; pregnant 1", "edit q: sex 2; pregnant 1"}, "[{ [[1 2] [1]]}] 0"},
		{"no record passes", []string{"field a 1,2", "field b 3", "edit e: a 2", "edit f: a 1"}, "[{ [[1 2] [3]]}] 0"},
		{"an edit that stays", []string{"field a 1,2", "field b 3,4", "edit e: a 2; b 4"}, "[{ [[2] [4]]}] 0"},
		{"one within another one", []string{"field a 1,2", "field b 3,4", "edit e: a 2; b 4", "edit f: b 4"}, "[{ [[1 2] [4]]}] 0"},
		// What follows of both: b is 4, whatever a is.
		{"a joint one", []string{"field a 1,2", "field b 3,4,5", "edit e: a 2; b 4,5", "edit f: a 1; b 3,4"}, "[{ [[1] [3 4]]} { [[1 2] [4]]} { [[2] [4 5]]}] 0"},
		// Of three edits, each one joint with the next one, one follows that no two of them have.
		{"a chain", []string{"field a 1,2,3", "field b 1,2", "edit e: a 1; b 1", "edit f: a 2; b 1", "edit g: a 3; b 1"}, "[{ [[1 2 3] [1]]}] 0"},
		{"across", []string{"field a 1,2", "field b 1,2", "field c 1,2", "edit e: a 1; b 1", "edit f: a 2; c 1"}, "[{ [[1] [1] [1 2]]} { [[1 2] [1] [1]]} { [[2] [1 2] [1]]}] 0"},
		// Sets are ordered by their elements, the beginning of another one first.
		{"the order", []string{"field a 1,2,10", "field b 1,2,3", "edit e: a 1,10; b 1", "edit f: a 1; b 2", "edit g: a 1,2; b 3"}, "[{ [[1] [1 2 3]]} { [[1 2] [3]]} { [[1 10] [1]]}] 0"},
	} {
		primes, fault := Primes(planWith(t, x.lines...))
		is(t, x.what, show(primes, fault), x.want)
	}
}

// TestUnlike holds the primes of a plan in which two fields must be alike: the values of a, and all values of b that are none of these.
func TestUnlike(t *testing.T) {
	unlike := func(codes int) api.EditPlan {
		p := api.EditPlan{Fields: manyFields(2, codes)}
		for i := range codes {
			p.Edits = append(p.Edits, api.Edit{Name: fmt.Sprint("e", i), Sets: [][]int{{i + 1}, slices.Delete(upward(codes), i, i+1)}})
		}
		return p
	}
	var want []api.Edit
	for _, s := range allSubsets(upward(5)) {
		if len(s) > 0 && len(s) < 5 {
			rest := slices.DeleteFunc(upward(5), func(n int) bool { return slices.Contains(s, n) })
			want = append(want, api.Edit{Sets: [][]int{s, rest}})
		}
	}
	slices.SortFunc(want, func(a, b api.Edit) int { return slices.Compare(a.Sets[0], b.Sets[0]) })
	primes, fault := Primes(unlike(5))
	is(t, "5 codes", show(primes, fault), show(want, 0))
	for _, codes := range []int{6, 12, 20} {
		primes, fault := Primes(unlike(codes))
		refuses(t, fmt.Sprint(codes, " codes"), api.ErrLarge, primes, fault)
	}
}

// TestManyPrimes holds the bound of MaxPrimes.
func TestManyPrimes(t *testing.T) {
	p := api.EditPlan{Fields: manyFields(3, 20)}
	p.Fields[2].Codes = upward(3)
	add := func(a, b, c int) {
		p.Edits = append(p.Edits, api.Edit{Name: fmt.Sprint("e", len(p.Edits)), Sets: [][]int{{a}, {b}, {c}}})
	}
	for i := range 20 {
		add(i+1, i+1, 1)
		add(i+1, (i+1)%20+1, 2)
	}
	primes, fault := Primes(p)
	if len(primes) != api.MaxPrimes || fault != api.OK {
		t.Error("40 primes", len(primes), fault)
	}
	add(1, 3, 3)
	primes, fault = Primes(p)
	refuses(t, "41 primes", api.ErrLarge, primes, fault)
	// Edits can be more, if primes are not.
	p = api.EditPlan{Fields: manyFields(1, 20)}
	for n := range api.MaxEdits {
		p.Edits = append(p.Edits, api.Edit{Name: fmt.Sprint("e", n), Sets: [][]int{{1 + n%19}}})
	}
	primes, fault = Primes(p)
	is(t, "60 edits", show(primes, fault), fmt.Sprint("[{ [", upward(19), "]}] 0"))
}

func TestRedundantAndClash(t *testing.T) {
	for _, x := range []struct {
		what             string
		lines            []string
		redundant, clash string
	}{
		{"no edits", []string{"field a 1,2"}, "[]", "[] false"},
		{"one edit", []string{"field a 1,2", "edit e: a 1"}, "[]", "[] false"},
		{"a full one", []string{"field a 1,2", "edit e:"}, "[]", "[0] true"},
		// Of two that are alike the first one is taken out.
		{"twins", []string{"field a 1,2", "edit e: a 1", "edit f: a 1"}, "[0]", "[] false"},
		{"triplets", []string{"field a 1,2", "edit e: a 1", "edit f: a 1", "edit g: a 1"}, "[0 1]", "[] false"},
		{"a later one within an earlier one", []string{"field a 1,2", "field b 1,2", "edit e: a 1", "edit f: a 1; b 2"}, "[1]", "[] false"},
		{"an earlier one within a later one", []string{"field a 1,2", "field b 1,2", "edit f: a 1; b 2", "edit e: a 1"}, "[0]", "[] false"},
		// The first one is within the two others; without it they are needed.
		{"within two", []string{"field a 1,2,3,4", "edit e: a 2,3", "edit f: a 1,2", "edit g: a 3"}, "[0]", "[] false"},
		// Each of three is within the two others, until one is taken out.
		{"a ring", []string{"field a 1,2,3,4", "edit e: a 1,2", "edit f: a 2,3", "edit g: a 1,3"}, "[0]", "[] false"},
		{"a ring that has all", []string{"field a 1,2,3", "edit e: a 1,2", "edit f: a 2,3", "edit g: a 1,3"}, "[0]", "[1 2] true"},
		// It does not count that an earlier one that was taken out has it.
		{"taken out earlier", []string{"field a 1,2,3", "edit e: a 1,2", "edit f: a 1", "edit g: a 2"}, "[0]", "[] false"},
		{"four", []string{"field a 1,2,3", "field b 1,2", "edit e: a 1", "edit f: a 2", "edit g: b 1", "edit h: b 2"}, "[0 1]", "[2 3] true"},
		{"five", []string{"field a 1,2,3", "field b 1,2", "edit e: b 1", "edit f: a 2", "edit g: a 1,3; b 2", "edit h: a 3", "edit i: a 1"}, "[0 2]", "[1 3 4] true"},
	} {
		p := planWith(t, x.lines...)
		redundant, fault := Redundant(p)
		is(t, x.what+": Redundant", show(redundant, fault), x.redundant+" 0")
		clash, none, fault := Clash(p)
		is(t, x.what+": Clash", show(clash, none, fault), x.clash+" 0")
	}
}
