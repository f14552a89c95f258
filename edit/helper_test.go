package edit

import (
	"fmt"
	"math/rand"
	"reflect"
	"slices"
	"strings"
	"testing"

	"canvass/api"
)

// planWith reads a plan, a line for each text.
func planWith(t *testing.T, lines ...string) api.EditPlan {
	t.Helper()
	p, line, fault := Read(strings.Join(lines, "\n") + "\n")
	if fault != api.OK || line != 0 {
		t.Fatal("Read", lines, line, fault)
	}
	return p
}

// show returns a text of any results.
func show(l ...any) string { return strings.TrimSpace(fmt.Sprintln(l...)) }

func is(t *testing.T, what, got, want string) {
	t.Helper()
	if got != want {
		t.Errorf("%s\ngot  %s\nwant %s", what, got, want)
	}
}

// isZero reports whether a result is zero, where an empty list is nil.
func isZero(x any) bool {
	v := reflect.ValueOf(x)
	return !v.IsValid() || v.IsZero() || v.Kind() == reflect.Slice && v.Len() == 0
}

// refuses holds a fault, and that all other results are zero.
func refuses(t *testing.T, what string, want api.Fault, got ...any) {
	t.Helper()
	last := len(got) - 1
	if got[last] != want {
		t.Errorf("%s: fault %v, not %d", what, got[last], want)
	}
	if want == api.OK {
		return
	}
	for _, x := range got[:last] {
		if !isZero(x) {
			t.Errorf("%s: with a fault the result is %.100s", what, fmt.Sprint(x))
		}
	}
}

// rung is a way to spoil an argument, and the fault that comes of it.
type rung[T any] struct {
	what  string
	spoil func(x *T)
	want  api.Fault
}

// climb holds the faults of rungs, each one alone, and each one together with all later ones, of which none may be told.
func climb[T any](t *testing.T, base func() T, check func(x T) api.Fault, rungs []rung[T]) {
	t.Helper()
	if fault := check(base()); fault != api.OK {
		t.Error("not spoiled", fault)
	}
	for i, r := range rungs {
		x := base()
		r.spoil(&x)
		if fault := check(x); fault != r.want {
			t.Errorf("%s: fault %d, not %d", r.what, fault, r.want)
		}
		x = base()
		for j := len(rungs) - 1; j >= i; j-- {
			rungs[j].spoil(&x)
		}
		if fault := check(x); fault != r.want {
			t.Errorf("%s, ahead of what comes later: fault %d, not %d", r.what, fault, r.want)
		}
	}
}

// upward returns the numbers 1, 2, .., so many of them.
func upward(count int) []int {
	out := make([]int, count)
	for i := range out {
		out[i] = i + 1
	}
	return out
}

// someOf returns some of the codes, at least one.
func someOf(r *rand.Rand, codes []int) []int {
	for {
		var out []int
		for _, code := range codes {
			if r.Intn(2) == 0 {
				out = append(out, code)
			}
		}
		if len(out) > 0 {
			return out
		}
	}
}

// randomPlan returns a plan of a few fields with few codes.
func randomPlan(r *rand.Rand) api.EditPlan {
	var p api.EditPlan
	for i := range 1 + min(3, r.Intn(6)) {
		f := api.EditField{Name: fmt.Sprint("f", i), Weight: 1 + r.Intn(3)}
		code := 0
		for range 1 + min(2, r.Intn(4)) {
			code += 1 + r.Intn(3)
			f.Codes = append(f.Codes, code)
		}
		p.Fields = append(p.Fields, f)
	}
	for n := range r.Intn(8) {
		e := api.Edit{Name: fmt.Sprint("e", n)}
		for _, f := range p.Fields {
			e.Sets = append(e.Sets, someOf(r, f.Codes))
		}
		p.Edits = append(p.Edits, e)
	}
	return p
}

// randomRecord returns a record, now and then with values that are not valid.
func randomRecord(r *rand.Rand, p api.EditPlan) []int {
	var out []int
	for _, f := range p.Fields {
		if r.Intn(6) == 0 {
			out = append(out, r.Intn(10))
		} else {
			out = append(out, f.Codes[r.Intn(len(f.Codes))])
		}
	}
	return out
}

func randomRecords(r *rand.Rand, p api.EditPlan, count int) [][]int {
	var out [][]int
	for range count {
		out = append(out, randomRecord(r, p))
	}
	return out
}

// allRecords returns all records with valid values, in their order.
func allRecords(p api.EditPlan) [][]int {
	out := [][]int{nil}
	for _, f := range p.Fields {
		var longer [][]int
		for _, record := range out {
			for _, code := range f.Codes {
				longer = append(longer, append(slices.Clone(record), code))
			}
		}
		out = longer
	}
	return out
}

// allSubsets returns all sets of some numbers, each increasing.
func allSubsets(numbers []int) [][]int {
	out := [][]int{nil}
	for _, n := range numbers {
		for _, s := range out {
			out = append(out, append(slices.Clone(s), n))
		}
	}
	return out
}
