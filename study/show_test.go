package study

import (
	"fmt"
	"math/big"
	"slices"
	"testing"

	"canvass/api"
)

// TestShow holds T6.
func TestShow(t *testing.T) {
	f := formOf(t, homeLines)
	l := dataOf(t, "1 1 a sex=#1 age=17", "2 1 b sex=#1 age=20", "5 2 c sex=#2 age=30.5", "6 1/3 d sex=#2 age=7")
	sexes := "man: sex = #1 | woman: sex = #2"
	for _, x := range []struct {
		what   string
		table  api.Table
		l      []api.Datum
		places int
		want   string
	}{
		{"the example", tableOf(t, "adults: age >= 18", sexes, "", ""), l[:3], 0,
			"\tman\twoman\ncases\t2\t1\nweighted\t2\t2\nadults\t50\t100\n"},
		{"with Of", tableOf(t, "adults: age >= 18", sexes, "", "age"), l[:3], 1,
			"\tman\twoman\ncases\t2\t1\nweighted\t2.0\t2.0\nadults\t50.0\t100.0\nmean\t18.5\t30.5\n"},
		{"rounded", tableOf(t, "adults: age >= 18 | young: not grown", sexes, "", "age"), l, 0,
			"\tman\twoman\ncases\t2\t2\nweighted\t2\t2\nadults\t50\t86\nyoung\t50\t14\nmean\t19\t27\n"},
		{"six places", tableOf(t, "adults: age >= 18", sexes, "", "- age"), l, 6,
			"\tman\twoman\ncases\t2\t2\nweighted\t2.000000\t2.333333\nadults\t50.000000\t85.714286\nmean\t-18.500000\t-27.142857\n"},
		{"no cases", tableOf(t, "a b: true", "x: true", "", "age"), nil, 2,
			"\tx\ncases\t0\nweighted\t0.00\na b\t0.00\nmean\t0.00\n"},
		{"titles that look like others", tableOf(t, "cases: true | mean: true", "weighted: true", "age > 7", ""), l, 3,
			"\tweighted\ncases\t3\nweighted\t4.000\ncases\t100.000\nmean\t100.000\n"},
	} {
		text, fault := Show(f, x.table, x.l, x.places)
		is(t, x.what, text, x.want)
		refuses(t, x.what, api.OK, text, fault)
	}
	f, table, l := groupsTable(t, 4, group{0, 50, 10, "1"}, group{1, 50, 40, "1"}, group{2, 50, 25, "1"}, group{3, 50, 0, "1"})
	text, fault := Show(f, table, l, 1)
	is(t, "with Test", text, "\tc1\tc2\tc3\tc4\ncases\t50\t50\t50\t50\nweighted\t50.0\t50.0\t50.0\t50.0\nrow\t20.0+4\t80.0+1+3+4\t50.0+1+4\t0.0\n")
	refuses(t, "with Test", api.OK, text, fault)
	for _, places := range []int{-1, 7, 20, 1 << 62, -1 << 62} {
		text, fault := Show(f, table, l, places)
		refuses(t, "places", api.ErrRange, text, fault)
	}
}

// TestShowLarge holds ErrLarge of T6: a Part can be within MaxDigits while 100 times it is not.
func TestShowLarge(t *testing.T) {
	f := short(t, "question age number 0 9999")
	table := tableOf(t, "some: age = 1", "all: true", "", "")
	for _, x := range []struct {
		last int64
		want api.Fault
	}{{40, api.OK}, {390, api.ErrLarge}} {
		l := slices.Concat(circleData(t, 707106, 166), circleData(t, x.last, 1))
		for i := range l {
			l[i].Id = i + 1
		}
		l[0].Given = nil
		c, fault := Count(f, table, l)
		refuses(t, "Count", api.OK, c, fault)
		part := rat(c.Cells[0][0].Part)
		if fits(ratioBy(mul(part, big.NewRat(100, 1)))) != (x.want == api.OK) {
			t.Error("another length", x.last, len(part.Num().String()))
		}
		text, fault := Show(f, table, l, 0)
		refuses(t, "a long Part", x.want, text, fault)
		text, fault = Show(f, table, l, 7)
		refuses(t, "places come first", api.ErrRange, text, fault)
	}
}

// circleData returns pairs of cases for u = v - 1 and v, from a greatest v on down, as far as p = u^2 + v^2 is a prime. Their weights v (u + v) / p and u (u + v) / p have the same sum as their squares, so that the effective number of all is the sum of all.
func circleData(t *testing.T, v int64, count int) []api.Datum {
	t.Helper()
	var out []api.Datum
	for ; len(out) < 2*count; v-- {
		u := v - 1
		p := u*u + v*v
		if !big.NewInt(p).ProbablyPrime(10) {
			continue
		}
		for _, num := range []int64{v * (u + v), u * (u + v)} {
			out = append(out, dataOf(t, fmt.Sprintf("1 %d/%d s age=1", num, p))...)
		}
	}
	return out
}
