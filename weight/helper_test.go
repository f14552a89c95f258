package weight

import (
	"fmt"
	"math/big"
	"math/rand"
	"reflect"
	"strings"
	"testing"

	"canvass/api"
)

// parts returns the ratio that a text as 1/2 or 3 has.
func parts(text string) api.Ratio {
	num, den, _ := strings.Cut(text, "/")
	if den == "" {
		den = "1"
	}
	return api.Ratio{Num: num, Den: den}
}

// numbers reads numbers, separated by a sign.
func numbers(t *testing.T, text, sign string) []int {
	t.Helper()
	var out []int
	for _, word := range strings.FieldsFunc(text, func(r rune) bool { return string(r) == sign }) {
		var n int
		if _, err := fmt.Sscan(word, &n); err != nil {
			t.Fatal(text, err)
		}
		out = append(out, n)
	}
	return out
}

// peopleIn reads people, separated by commas: the weight, and, if there are more words, the cells, as 0.2 (or -), Class, Layer and Part.
func peopleIn(t *testing.T, text string) []api.Person {
	t.Helper()
	var out []api.Person
	for _, words := range strings.FieldsFunc(text, func(r rune) bool { return r == ',' }) {
		row := strings.Fields(words)
		row = append(row, []string{"-", "0", "0", "0"}[len(row)-1:]...)
		p := api.Person{Weight: parts(row[0])}
		if row[1] != "-" {
			p.Cells = numbers(t, row[1], ".")
		}
		p.Class, p.Layer, p.Part = numbers(t, row[2], " ")[0], numbers(t, row[3], " ")[0], numbers(t, row[4], " ")[0]
		out = append(out, p)
	}
	return out
}

// marginsIn reads margins, separated by commas: the name and the totals.
func marginsIn(t *testing.T, text string) []api.Margin {
	t.Helper()
	var out []api.Margin
	for _, words := range strings.FieldsFunc(text, func(r rune) bool { return r == ',' }) {
		row := strings.Fields(words)
		m := api.Margin{Name: row[0]}
		for _, word := range row[1:] {
			m.Totals = append(m.Totals, parts(word))
		}
		out = append(out, m)
	}
	return out
}

// manyPeople returns people with the weight 1 and nothing else.
func manyPeople(count int) []api.Person {
	out := make([]api.Person, count)
	for i := range out {
		out[i].Weight = parts("1")
	}
	return out
}

// show returns a text of any results; ratios are as 1/2, or 3.
func show(l ...any) string {
	var words []string
	for _, x := range l {
		switch y := x.(type) {
		case api.Ratio:
			words = append(words, strings.TrimSuffix(y.Num+"/"+y.Den, "/1"))
		case []api.Ratio:
			list := make([]any, len(y))
			for i, r := range y {
				list[i] = r
			}
			words = append(words, "["+show(list...)+"]")
		case []api.Margin:
			for _, m := range y {
				words = append(words, m.Name+show(m.Totals))
			}
		case api.Raked:
			words = append(words, show(y.Weights, y.Rounds, y.Distance, y.Done))
		case api.Spread:
			words = append(words, show(y.Sum, y.Least, y.Most, y.Mean, y.Effective, y.Effect))
		case []api.Replicate:
			for _, r := range y {
				words = append(words, show(r.Layer, r.Part, r.Weights))
			}
		default:
			words = append(words, fmt.Sprint(y))
		}
	}
	return strings.TrimSpace(strings.Join(words, " "))
}

func is(t *testing.T, what, got, want string) {
	t.Helper()
	if got != want {
		t.Errorf("%s\ngot  %.2000s\nwant %.2000s", what, got, want)
	}
}

// isZero reports whether a result is zero, where an empty list is nil.
func isZero(x any) bool {
	v := reflect.ValueOf(x)
	return !v.IsValid() || v.IsZero() || v.Kind() == reflect.Slice && v.Len() == 0
}

// refuses holds a fault, and that all other results are zero with it.
func refuses(t *testing.T, what string, want api.Fault, got ...any) {
	t.Helper()
	last := len(got) - 1
	if got[last] != want {
		t.Errorf("%s: fault %v, not %d", what, got[last], want)
	}
	if want == api.OK {
		return
	}
	for _, x := range got[:last] {
		if !isZero(x) {
			t.Errorf("%s: with a fault the result is %.100s", what, fmt.Sprint(x))
		}
	}
}

// rung is a way to spoil an argument, and the fault that comes of it.
type rung[T any] struct {
	what  string
	spoil func(x *T)
	want  api.Fault
}

// climb holds the faults of rungs, each one alone, and each one together with all later ones, of which none may be told.
func climb[T any](t *testing.T, base func() T, check func(x T) api.Fault, rungs []rung[T]) {
	t.Helper()
	if fault := check(base()); fault != api.OK {
		t.Error("not spoiled", fault)
	}
	for i, r := range rungs {
		x := base()
		r.spoil(&x)
		if fault := check(x); fault != r.want {
			t.Errorf("%s: fault %d, not %d", r.what, fault, r.want)
		}
		x = base()
		for j := len(rungs) - 1; j >= i; j-- {
			rungs[j].spoil(&x)
		}
		if fault := check(x); fault != r.want {
			t.Errorf("%s, ahead of what comes later: fault %d, not %d", r.what, fault, r.want)
		}
	}
}

// unshort are ratios that are not short, with the fault of each one.
var unshort = []struct {
	r    api.Ratio
	want api.Fault
}{
	{api.Ratio{}, api.ErrForm},
	{parts("1/0"), api.ErrForm},
	{parts("2/4"), api.ErrForm},
	{parts("0/2"), api.ErrForm},
	{parts("-0"), api.ErrForm},
	{parts("01"), api.ErrForm},
	{parts("+1"), api.ErrForm},
	{parts("1/-2"), api.ErrForm},
	{parts("1.5"), api.ErrForm},
	{parts("1000000000000/10"), api.ErrForm},
	{parts(strings.Repeat("x", 2000)), api.ErrForm},
	{parts(strings.Repeat("x", 2001)), api.ErrLarge},
	{parts("1/" + strings.Repeat("0", 2001)), api.ErrLarge},
	{parts("1000000000000"), api.ErrLarge},
	{parts("-1000000000000"), api.ErrLarge},
	{parts("1/1000000000000"), api.ErrLarge},
	{parts(strings.Repeat("1", 2000)), api.ErrLarge},
	{parts("-" + strings.Repeat("1", 2000)), api.ErrLarge},
}

// longest are short ratios at the bound of short ones, for what must be greater than 0.
var longest = []string{"999999999999", "1/999999999999", "999999999998/999999999999"}

func rat(r api.Ratio) *big.Rat {
	out, ok := new(big.Rat).SetString(r.Num + "/" + r.Den)
	if !ok {
		panic("no ratio: " + r.Num + "/" + r.Den)
	}
	return out
}

func number(n int) *big.Rat { return big.NewRat(int64(n), 1) }

// ratioBy writes a number as a ratio of any length.
func ratioBy(x *big.Rat) api.Ratio { return api.Ratio{Num: x.Num().String(), Den: x.Denom().String()} }

// fits holds the errors of numbers as results: ErrLarge if one is not within MaxDigits.
func fits(l ...*big.Rat) api.Fault {
	for _, x := range l {
		if r := ratioBy(x); len(strings.TrimPrefix(r.Num, "-")) > api.MaxDigits || len(r.Den) > api.MaxDigits {
			return api.ErrLarge
		}
	}
	return api.OK
}

// primesFrom returns so many primes, the greatest one below limit first.
func primesFrom(limit, count int) []int {
	var out []int
	for n := limit - 1; len(out) < count; n-- {
		if big.NewInt(int64(n)).ProbablyPrime(10) {
			out = append(out, n)
		}
	}
	return out
}

// primePeople returns people with the weights 1 / p, for primes p of 12 digits.
func primePeople(count int) []api.Person {
	out := manyPeople(count)
	for i, p := range primesFrom(1000000000000, count) {
		out[i].Weight.Den = fmt.Sprint(p)
	}
	return out
}

// randomShort returns a short ratio greater than 0, often a simple one.
func randomShort(r *rand.Rand) api.Ratio {
	limits := []int{3, 10, 1000, 999999999999}
	return ratioBy(big.NewRat(1+r.Int63n(int64(limits[r.Intn(4)])), 1+r.Int63n(int64(limits[r.Intn(4)]))))
}

// randomPeople returns people in cells of margins of some sizes, now and then with few different weights.
func randomPeople(r *rand.Rand, count int, sizes []int) []api.Person {
	out := make([]api.Person, count)
	classes, simple := 1+r.Intn(4), r.Intn(2) == 0
	for i := range out {
		out[i] = api.Person{Weight: randomShort(r), Class: r.Intn(classes), Layer: r.Intn(classes), Part: r.Intn(1 + r.Intn(4))}
		if simple {
			out[i].Weight = ratioBy(number(1 + r.Intn(4)))
		}
		for _, size := range sizes {
			out[i].Cells = append(out[i].Cells, r.Intn(size))
		}
	}
	return out
}
