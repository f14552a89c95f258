package study

import (
	"fmt"
	"math/big"
	"slices"
	"strings"
	"testing"

	"canvass/api"
)

// tableOf returns a table with rows and columns, separated by bars, and, if they are not empty, Base and Of.
func tableOf(t *testing.T, rows, columns, base, of string) api.Table {
	t.Helper()
	out := api.Table{Rows: linesFrom(t, strings.Split(rows, " | ")...), Columns: linesFrom(t, strings.Split(columns, " | ")...)}
	if base != "" {
		out.Base = []api.Expr{expr(t, base)}
	}
	if of != "" {
		out.Of = []api.Expr{expr(t, of)}
	}
	return out
}

func counted(t *testing.T, f api.Form, table api.Table, l []api.Datum) string {
	t.Helper()
	c, fault := Count(f, table, l)
	return show(c, fault)
}

// TestCount holds T4.
func TestCount(t *testing.T) {
	f := formOf(t, homeLines)
	example := dataOf(t, "1 1 a sex=#1 age=17", "2 1 b sex=#1 age=20", "5 2 c sex=#2 age=30")
	sexes := "man: sex = #1 | woman: sex = #2"
	for _, x := range []struct {
		what  string
		table api.Table
		l     []api.Datum
		want  string
	}{
		{"the example", tableOf(t, "adults: age >= 18", sexes, "", ""), example,
			"totals (2 2 2 0 0 0) (1 2 1 0 0 0) row (1 1 1/2) (1 2 1) 0"},
		{"with Of", tableOf(t, "adults: age >= 18", sexes, "", "age"), example,
			"totals (2 2 2 2 2 37/2) (1 2 1 1 2 30) row (1 1 1/2) (1 2 1) 0"},
		{"no cases", tableOf(t, "adults: age >= 18 | all: true", sexes, "", "age"), nil,
			"totals (0 0 0 0 0 0) (0 0 0 0 0 0) row (0 0 0) (0 0 0) row (0 0 0) (0 0 0) 0"},
		{"with Base", tableOf(t, "adults: age >= 18 | all: true", sexes, "age < 30", "age"), example,
			"totals (2 2 2 2 2 37/2) (0 0 0 0 0 0) row (1 1 1/2) (0 0 0) row (2 2 1) (0 0 0) 0"},
		{"a Base that is missing is false", tableOf(t, "all: true", "all: true", "age > 0 or sex <> #1", ""), dataOf(t, "1 1 s", "2 1 s age=0", "3 7 s age=0.01"),
			"totals (1 7 1 0 0 0) row (1 7 1) 0"},
		{"lines that are no parts", tableOf(t, "a: true | b: age >= 20 | c: false", "all: true | same: true | old: age > 20", "", ""), example,
			"totals (3 4 8/3 0 0 0) (3 4 8/3 0 0 0) (1 2 1 0 0 0) row (3 4 1) (3 4 1) (1 2 1) row (2 3 3/4) (2 3 3/4) (1 2 1) row (0 0 0) (0 0 0) (0 0 0) 0"},
		{"fractions", tableOf(t, "young: age < 30", "all: true", "", "age"), dataOf(t, "1 1/2 s age=20", "2 1/3 s age=30.25", "3 7/6 s", "4 1/5 s age=1 sex=refused"),
			"totals (4 11/5 2178/793 3 31/30 1217/62) row (2 7/10 7/22) 0"},
		{"Of is missing for some", tableOf(t, "all: true", "men: sex = #1 | women: sex = #2 | others: not answered(sex)", "", "age"), dataOf(t, "1 3 s sex=#1", "2 1 s sex=#1 age=10", "3 1 s sex=#2", "4 2 s sex=refused age=0.02"),
			"totals (2 4 8/5 1 1 10) (1 1 1 0 0 0) (1 2 1 1 2 1/50) row (2 4 1) (1 1 1) (1 2 1) 0"},
		{"Of is not of a question", tableOf(t, "all: true", "all: true", "", "sum(row: kid) - 100.0001"), dataOf(t, "1 1 s sex=#2 kids=2 kid.1=3 kid.2=4", "2 1 s", "3 2 s sex=#1 kids=2 kid.1=50"),
			"totals (3 4 8/3 3 4 -982501/10000) row (3 4 1) 0"},
		{"what is beside does not count", tableOf(t, "kids: kids > 0", "all: true", "", "kids"), dataOf(t, "1 1 s sex=#1 kids=2", "2 1 s sex=#2 kids=2", "3 1 s sex=#2 kids=10", "4 1 s sex=#2 kids=0.5"),
			"totals (4 4 4 1 1 2) row (1 1 1/4) 0"},
		{"rows of loops", tableOf(t, "seven: any(like: row(like) = 7) | long: any(like: any(deep: long = 2))", "all: true", "", ""), dataOf(t, "1 1 s likes={#5,#7} why.7.2='ab'", "2 1 s likes={#5} why.5.1='a'", "3 2 s"),
			"totals (3 4 8/3 0 0 0) row (1 1 1/4) row (1 1 1/4) 0"},
	} {
		is(t, x.what, counted(t, f, x.table, x.l), x.want)
	}
	table := tableOf(t, "adults: age >= 18", sexes, "", "")
	table.Test = true
	is(t, "Test of few cases", counted(t, f, table, example), "totals (2 2 2 0 0 0) (1 2 1 0 0 0) row (1 1 1/2) (1 2 1) 0")
}

// primesFrom returns so many primes, the greatest one below limit first.
func primesFrom(limit int64, count int) []int64 {
	var out []int64
	for n := limit - 1; len(out) < count; n-- {
		if big.NewInt(n).ProbablyPrime(10) {
			out = append(out, n)
		}
	}
	return out
}

// primeData returns cases whose weights are a / p for primes p of 12 digits; the answer age of each one is its number, from 0 on.
func primeData(t *testing.T, count int, a int64) []api.Datum {
	t.Helper()
	var out []api.Datum
	for i, p := range primesFrom(1000000000000, count) {
		out = append(out, dataOf(t, fmt.Sprintf("%d %d/%d s age=%d", i+1, a, p, i))...)
	}
	return out
}

// TestCountLarge holds ErrLarge of T4: what is told must be within MaxDigits, what is on the way need not be.
func TestCountLarge(t *testing.T) {
	f := short(t, "question age number 0 9999")
	check := func(what string, table api.Table, l []api.Datum, want api.Fault) {
		t.Helper()
		c, fault := Count(f, table, l)
		refuses(t, what, want, c, fault)
	}
	// The sum of k such weights is N / D, where D has 12 k digits and N about 10 less. The effective number is the square of N divided by a number that is as long.
	l := primeData(t, 170, 1)
	check("84 weights", tableOf(t, "all: true", "some: age < 84", "", ""), l, api.OK)
	check("85 weights", tableOf(t, "all: true", "some: age < 85", "", ""), l, api.ErrLarge)
	check("85 weights outside of the table", tableOf(t, "all: true", "some: age < 85", "age < 10", ""), l, api.OK)
	check("weights outside of the columns", tableOf(t, "all: true", "some: age < 84 | others: age > 160", "", ""), l, api.OK)
	check("in the last column", tableOf(t, "all: true", "some: age < 84 | others: age >= 85", "", ""), l[:169], api.OK)
	check("in the last column", tableOf(t, "all: true", "some: age < 84 | others: age >= 85", "", ""), l, api.ErrLarge)
	check("with Of", tableOf(t, "all: true", "some: age < 84", "", "age"), l, api.OK)
	// Weights that cancel one another: the sum is 50, the sum of the squares has 1200 digits, its numerator too.
	pairs := primeData(t, 100, 1)
	for i := 1; i < 100; i += 2 {
		p := rat(pairs[i-1].Weight)
		pairs[i].Weight = ratioBy(new(big.Rat).Sub(big.NewRat(1, 1), p))
	}
	check("weights that cancel one another", tableOf(t, "all: true", "all: true", "", ""), pairs, api.OK)
	check("weights that do so, apart", tableOf(t, "even: age mod 2 = 0", "all: true", "", ""), pairs, api.OK)
	triples := slices.Concat(pairs, primeData(t, 300, 1)[100:])
	for i := 101; i < 300; i += 2 {
		triples[i].Weight = ratioBy(new(big.Rat).Sub(big.NewRat(1, 1), rat(triples[i-1].Weight)))
	}
	check("only the effective number is long", tableOf(t, "all: true", "all: true", "", ""), triples, api.ErrLarge)
	check("a fault of the data comes first", tableOf(t, "all: true", "all: true", "", ""), append(slices.Clone(triples), triples[0]), api.ErrOrder)
	for i := range triples {
		triples[i].Weight = parts("999999999999")
	}
	check("great weights", tableOf(t, "all: true", "all: true", "", ""), triples, api.OK)
}

// TestCountFaults holds the order of the errors of T4 and T6.
func TestCountFaults(t *testing.T) {
	f := formOf(t, homeLines)
	type args struct {
		f      api.Form
		t      api.Table
		l      []api.Datum
		places int
	}
	base := func() args {
		return args{f, tableOf(t, "a: grown | b: true", "c: true", "", "age"), dataOf(t, "1 1 s", "2 1 s"), 3}
	}
	long := primeData(t, 100, 1)
	rungs := []rung[args]{
		{"the form", func(x *args) { x.f = wrong(f) }, api.ErrRange},
		{"the table", func(x *args) { x.t.Rows = nil }, api.ErrNone},
		{"the data", func(x *args) { x.l = append(slices.Clone(x.l), x.l[0]) }, api.ErrOrder},
		{"a ratio", func(x *args) { x.l = long }, api.ErrLarge},
		{"places", func(x *args) { x.places = 7 }, api.ErrRange},
	}
	climb(t, base, func(x args) api.Fault {
		c, fault := Count(x.f, x.t, x.l)
		refuses(t, "Count", fault, c, fault)
		return fault
	}, rungs[:4])
	climb(t, base, func(x args) api.Fault {
		text, fault := Show(x.f, x.t, x.l, x.places)
		refuses(t, "Show", fault, text, fault)
		return fault
	}, rungs)
}

// TestCellsLarge holds ErrLarge of T4 where the numbers of columns are short, but those of cells are not.
func TestCellsLarge(t *testing.T) {
	f := short(t, "question age number 0 9999")
	var l []api.Datum
	for p := int64(999999); len(l) < 3*350; p-- {
		if p%3 != 1 || !big.NewInt(p).ProbablyPrime(10) {
			continue
		}
		// Of x it holds that 1 + x + x^2 is divided by p^2, so that both the sum of the weights 1 / p, x / p and (p^2 - 1 - x) / p, and that of their squares, are whole numbers.
		x := big.NewInt(1)
		for base := int64(2); x.Int64() == 1; base++ {
			x.Exp(big.NewInt(base), big.NewInt(p*(p-1)/3), big.NewInt(p*p))
		}
		for i, num := range []int64{1, x.Int64(), p*p - 1 - x.Int64()} {
			l = append(l, dataOf(t, fmt.Sprintf("%d %d/%d s age=%d", len(l)+1, num, p, i))...)
		}
	}
	for _, x := range []struct {
		rows string
		from int
		want api.Fault
	}{
		{"all: true", 350, api.OK}, {"all: true | none: false", 350, api.OK},
		{"some: age = 1", 300, api.OK}, {"some: age = 1", 350, api.ErrLarge}, {"all: true | some: age <= 1", 350, api.ErrLarge},
	} {
		table := tableOf(t, x.rows, "all: true", "", "")
		c, fault := Count(f, table, l[:3*x.from])
		refuses(t, fmt.Sprint(x.rows, " of ", x.from), x.want, c, fault)
		if fault == api.OK && len(show(c.Totals[0])) > 100 {
			t.Error("the column is long", show(c.Totals[0]))
		}
	}
}
