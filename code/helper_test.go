package code

import (
	"fmt"
	"math/big"
	"math/rand"
	"reflect"
	"strings"
	"testing"

	"canvass/api"
)

// nodesIn reads a frame.
func nodesIn(t *testing.T, text string) []api.Node {
	t.Helper()
	l, line, fault := Read(text)
	if fault != api.OK || line != 0 {
		t.Fatal("Read", text, line, fault)
	}
	return l
}

// beings is a frame of three levels, with two nodes of level 1.
const beings = "10 animals\n  20 dogs\n    21 poodles\n    25 terriers\n  30 cats\n5 plants\n  6 trees\n"

// chain returns nodes of which each one is below the one ahead of it, and the first one of level 1.
func chain(count int) []api.Node {
	out := make([]api.Node, count)
	for i := range out {
		out[i] = api.Node{Code: i + 1, Parent: i, Title: "t"}
	}
	return out
}

// flat returns nodes of level 1 with the codes 1, 2, ..
func flat(count int) []api.Node {
	out := chain(count)
	for i := range out {
		out[i].Parent = 0
	}
	return out
}

// numbered returns increasing words, so many of them.
func numbered(count int) []string {
	out := make([]string, count)
	for i := range out {
		out[i] = fmt.Sprintf("w%04d", i)
	}
	return out
}

// codingsIn reads codings, separated by commas, as `1 2 30`: Case, Coder, Code.
func codingsIn(t *testing.T, text string) []api.Coding {
	t.Helper()
	var out []api.Coding
	for _, words := range strings.FieldsFunc(text, func(r rune) bool { return r == ',' }) {
		var c api.Coding
		if _, err := fmt.Sscan(words, &c.Case, &c.Coder, &c.Code); err != nil {
			t.Fatal(words, err)
		}
		out = append(out, c)
	}
	return out
}

// parts returns the ratio that a text as 1/2 has.
func parts(text string) api.Ratio {
	num, den, _ := strings.Cut(text, "/")
	return api.Ratio{Num: num, Den: den}
}

// show returns a text of any results.
func show(l ...any) string { return strings.TrimSpace(fmt.Sprintln(l...)) }

func is(t *testing.T, what, got, want string) {
	t.Helper()
	if got != want {
		t.Errorf("%s\ngot  %s\nwant %s", what, got, want)
	}
}

// isZero reports whether a result is zero, where an empty list is nil.
func isZero(x any) bool {
	v := reflect.ValueOf(x)
	return !v.IsValid() || v.IsZero() || v.Kind() == reflect.Slice && v.Len() == 0
}

// refuses holds a fault, and that all other results are zero.
func refuses(t *testing.T, what string, want api.Fault, got ...any) {
	t.Helper()
	last := len(got) - 1
	if got[last] != want {
		t.Errorf("%s: fault %v, not %d", what, got[last], want)
	}
	if want == api.OK {
		return
	}
	for _, x := range got[:last] {
		if !isZero(x) {
			t.Errorf("%s: with a fault the result is %.100s", what, fmt.Sprint(x))
		}
	}
}

// rung is a way to spoil an argument, and the fault that comes of it.
type rung[T any] struct {
	what  string
	spoil func(x *T)
	want  api.Fault
}

// climb holds the faults of rungs, each one alone, and each one together with all later ones, of which none may be told.
func climb[T any](t *testing.T, base func() T, check func(x T) api.Fault, rungs []rung[T]) {
	t.Helper()
	if fault := check(base()); fault != api.OK {
		t.Error("not spoiled", fault)
	}
	for i, r := range rungs {
		x := base()
		r.spoil(&x)
		if fault := check(x); fault != r.want {
			t.Errorf("%s: fault %d, not %d", r.what, fault, r.want)
		}
		x = base()
		for j := len(rungs) - 1; j >= i; j-- {
			rungs[j].spoil(&x)
		}
		if fault := check(x); fault != r.want {
			t.Errorf("%s, ahead of what comes later: fault %d, not %d", r.what, fault, r.want)
		}
	}
}

func ratioBy(x *big.Rat) api.Ratio { return api.Ratio{Num: x.Num().String(), Den: x.Denom().String()} }

// randomNodes returns a frame; nodes can stand ahead of the one that they are below.
func randomNodes(r *rand.Rand) []api.Node {
	count := 1 + r.Intn(12)
	codes, levels := r.Perm(30)[:count], map[int]int{}
	parents := map[int]int{}
	for i, code := range codes {
		code++
		if i > 0 && r.Intn(4) > 0 {
			if above := codes[r.Intn(i)] + 1; levels[above] < api.MaxLevel {
				parents[code] = above
			}
		}
		levels[code] = levels[parents[code]] + 1
	}
	var out []api.Node
	for code := range 31 {
		if levels[code] > 0 {
			out = append(out, api.Node{Code: code, Parent: parents[code], Title: string(rune('a' + r.Intn(4)))})
		}
	}
	return out
}

func randomCode(r *rand.Rand, l []api.Node) int { return l[r.Intn(len(l))].Code }

// randomCodings returns codings of some cases, now and then with few different codes.
func randomCodings(r *rand.Rand, l []api.Node) []api.Coding {
	var out []api.Coding
	number := 0
	for range r.Intn(8) {
		number += 1 + r.Intn(3)
		kinds := 1 + r.Intn(4)
		some := make([]int, kinds)
		for i := range some {
			some[i] = randomCode(r, l)
		}
		for coder := 1; coder <= 6; coder++ {
			if r.Intn(3) > 0 {
				out = append(out, api.Coding{Case: number, Coder: coder, Code: some[r.Intn(kinds)]})
			}
		}
	}
	return out
}

// randomText returns words of a small language with signs between them.
func randomText(r *rand.Rand) string {
	words := []string{"dog", "dogs", "Cat", "cats", "THE", "a", "running", "runs", "ran", "tree", "trees", "7", "ing", "bees", "walkings"}
	signs := []string{" ", ", ", "-", "\n", "\xc3\xa9", "."}
	out := ""
	for range r.Intn(7) {
		out += words[r.Intn(len(words))] + signs[r.Intn(len(signs))]
	}
	return out
}

func randomWords(r *rand.Rand, most int) []string {
	words := []string{"a", "bee", "cat", "cats", "dog", "ran", "runn", "the", "tree"}
	var out []string
	for _, word := range words {
		if len(out) < most && r.Intn(5) == 0 {
			out = append(out, word)
		}
	}
	return out
}

func randomCoder(r *rand.Rand) api.Coder {
	c := api.Coder{Nodes: randomNodes(r), Stops: randomWords(r, 3)}
	for _, e := range []api.Ending{{From: "ings"}, {From: "ing", To: "e"}, {From: "s"}, {From: "es", To: "x"}, {From: "n", To: "nn"}} {
		if r.Intn(2) == 0 {
			c.Endings = append(c.Endings, e)
		}
	}
	for range r.Intn(3) {
		with := randomWords(r, 2)
		if len(with) > 0 {
			c.Rules = append(c.Rules, api.CodeRule{With: with, Without: randomWords(r, 2), Code: randomCode(r, c.Nodes)})
		}
	}
	for range r.Intn(20) {
		c.Examples = append(c.Examples, api.Example{Text: randomText(r), Code: randomCode(r, c.Nodes)})
	}
	return c
}
