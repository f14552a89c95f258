package study

import (
	"fmt"
	"strings"
	"testing"

	"canvass/api"
)

// group is cases with the same weight that are in one column: how many, and how many of them are in the row.
type group struct {
	column, cases, inRow int
	weight               string
}

// groupsTable returns a table with one row and columns for some groups, and its data set.
func groupsTable(t *testing.T, columns int, groups ...group) (api.Form, api.Table, []api.Datum) {
	t.Helper()
	f := short(t, "question at number 0 99", "question is number 0 1")
	table := api.Table{Rows: linesFrom(t, "row: is = 1"), Test: true}
	for i := range columns {
		table.Columns = append(table.Columns, line(t, fmt.Sprintf("c%d: at = %d", i+1, i)))
	}
	var l []api.Datum
	for _, g := range groups {
		for n := range g.cases {
			is := 0
			if n < g.inRow {
				is = 1
			}
			l = append(l, dataOf(t, fmt.Sprintf("%d %s s at=%d is=%d", len(l)+1, g.weight, g.column, is))...)
		}
	}
	return f, table, l
}

// aboveIn returns Above of the cells of the first row, as `-/0 2/`.
func aboveIn(t *testing.T, f api.Form, table api.Table, l []api.Datum) string {
	t.Helper()
	c, fault := Count(f, table, l)
	if fault != api.OK {
		t.Fatal("Count", fault)
	}
	var words []string
	for _, cell := range c.Cells[0] {
		words = append(words, strings.Trim(fmt.Sprint(cell.Above), "[]"))
	}
	return strings.Join(words, "/")
}

// TestAbove holds T5.
func TestAbove(t *testing.T) {
	for _, x := range []struct {
		what    string
		columns int
		groups  []group
		want    string
	}{
		{"far apart", 2, []group{{0, 40, 30, "1"}, {1, 40, 10, "1"}}, "1/"},
		{"far apart, the other way", 2, []group{{0, 40, 10, "1"}, {1, 40, 30, "1"}}, "/0"},
		{"nearly the same", 2, []group{{0, 40, 21, "1"}, {1, 40, 20, "1"}}, "/"},
		{"the same", 2, []group{{0, 40, 20, "1"}, {1, 40, 20, "1"}}, "/"},
		{"all and none", 2, []group{{0, 30, 30, "1"}, {1, 30, 0, "1"}}, "1/"},
		{"all and all", 2, []group{{0, 30, 30, "1"}, {1, 35, 35, "1"}}, "/"},
		{"none and none", 2, []group{{0, 30, 0, "1"}, {1, 35, 0, "1"}}, "/"},
		{"too few in the first one", 2, []group{{0, 29, 29, "1"}, {1, 30, 0, "1"}}, "/"},
		{"too few in the second one", 2, []group{{0, 30, 30, "1"}, {1, 29, 0, "1"}}, "/"},
		{"none in a column", 3, []group{{0, 30, 30, "1"}, {2, 30, 0, "1"}}, "2//"},
		{"several ones", 4, []group{{0, 50, 10, "1"}, {1, 50, 40, "1"}, {2, 50, 25, "1"}, {3, 50, 0, "1"}}, "3/0 2 3/0 3/"},
		// The effective number of 32 cases with the weight 1 and one with 4 is 36 * 36 / 48 = 27, of 40 and one 44 * 44 / 56 > 34.
		{"many cases, but unequal weights", 2, []group{{0, 30, 0, "1"}, {1, 32, 32, "1"}, {1, 1, 1, "4"}}, "/"},
		{"more cases with unequal weights", 2, []group{{0, 30, 0, "1"}, {1, 40, 40, "1"}, {1, 1, 1, "4"}}, "/0"},
		// Of 5 cases with the weight 9 and 75 with 1 it is 120 * 120 / 480 = 30.
		{"an effective number of just 30", 2, []group{{0, 5, 5, "9"}, {0, 75, 75, "1"}, {1, 30, 0, "1"}}, "1/"},
		{"an effective number a bit below 30", 2, []group{{0, 5, 5, "9"}, {0, 74, 74, "1"}, {1, 30, 0, "1"}}, "/"},
		{"an effective number a bit above 30", 2, []group{{0, 5, 0, "9"}, {0, 76, 0, "1"}, {1, 30, 30, "1"}}, "/0"},
		// With 350 and 875 cases, 114 and 236 of them in the row, both sides are equal.
		{"at the bound", 2, []group{{0, 350, 114, "1"}, {1, 875, 236, "1"}}, "/"},
		{"a bit above the bound", 2, []group{{0, 350, 115, "1"}, {1, 875, 236, "1"}}, "1/"},
		{"above the bound by the other one", 2, []group{{0, 350, 114, "1"}, {1, 875, 235, "1"}}, "1/"},
		{"at the bound, the other way", 2, []group{{0, 875, 639, "1/3"}, {1, 350, 236, "5"}}, "/"},
		{"a bit above the bound, the other way", 2, []group{{0, 875, 640, "1/3"}, {1, 350, 236, "5"}}, "1/"},
		// Two weights whose sum is 2, but for about 1 / 10^24.
		{"so little above the bound that only exact numbers tell it", 2, []group{{0, 112, 112, "1"}, {0, 1, 1, "999999999999/999999999998"}, {0, 1, 1, "999999999998/999999999999"}, {0, 236, 0, "1"}, {1, 875, 236, "1"}}, "1/"},
		{"so little below it", 2, []group{{0, 112, 112, "1"}, {0, 1, 1, "999999999998/999999999997"}, {0, 1, 1, "999999999995/999999999996"}, {0, 236, 0, "1"}, {1, 875, 236, "1"}}, "/"},
		{"at another bound", 2, []group{{1, 242, 124, "7/2"}, {0, 1375, 611, "7/2"}}, "/"},
		{"a bit above another bound", 2, []group{{1, 242, 124, "7/2"}, {0, 1375, 610, "7/2"}}, "/0"},
	} {
		f, table, l := groupsTable(t, x.columns, x.groups...)
		is(t, x.what, aboveIn(t, f, table, l), x.want)
		table.Test = false
		is(t, x.what+", without Test", aboveIn(t, f, table, l), strings.Repeat("/", x.columns-1))
	}
}

// TestAboveByWeights holds that Parts and effective numbers are those of the weights, in columns that share cases.
func TestAboveByWeights(t *testing.T) {
	f, table, l := groupsTable(t, 1, group{0, 60, 30, "1"}, group{1, 60, 20, "1"}, group{1, 60, 5, "1/100"}, group{2, 20, 20, "1"})
	table.Columns = linesFrom(t, "a: at = 0", "b: at = 1", "both: at < 2", "c: at <= 2", "c: at = 2")
	// The Parts are about 0.5, 0.33, 0.42, 0.5, and 1; the last column is too small.
	is(t, "Parts", aboveIn(t, f, table, l), "///1/")
	for i := range l {
		if l[i].Weight != parts("1") {
			l[i].Weight = parts("999999999999")
		}
	}
	is(t, "greater weights", aboveIn(t, f, table, l), "1 2 3////")
}

// TestAboveLong holds T5 for numbers with many digits.
func TestAboveLong(t *testing.T) {
	f := short(t, "question age number 0 9999")
	l := primeData(t, 170, 1<<39)
	table := tableOf(t, "few: age mod 80 < 20 | many: age mod 80 < 60", "a: age < 80 | b: age >= 80 and age < 160 | c: age < 80 and age > 19 | d: age > 70 and age < 101", "", "")
	table.Test = true
	c, fault := Count(f, table, l)
	if fault != api.OK {
		t.Fatal(fault)
	}
	digits := 0
	for _, total := range c.Totals {
		digits = max(digits, len(total.Effective.Num))
	}
	if digits < 1800 {
		t.Error("short numbers", digits)
	}
	for i, row := range c.Cells {
		for j := range row {
			is(t, fmt.Sprint("cell ", i, " ", j), row[j].Above, aboveBy(c, i, j))
		}
	}
	is(t, "few of c", c.Cells[0][0].Above, "[2]")
}
