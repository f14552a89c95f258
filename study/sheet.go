package study

import (
	"strconv"

	"canvass/api"
	"canvass/weight"
	"canvass/whole"
)

// sheet is a data set as a table sees it. Cases are told by their numbers.
type sheet struct {
	cases   []entry
	units   []whole.Int // the denominators of all weights, each once
	columns [][]int     // the cases of each column
	rows    [][]bool    // for each row and each case, whether it is in it
	isTest  bool
}

// entry is what a table sees of a case.
type entry struct {
	weight whole.Fraction
	num    int       // the numerator of the weight
	unit   int       // the number of its denominator
	of     api.Value // of Of; Missing, if the table has none
}

// sheetFor returns a sheet of a table and so many cases, of which nothing is known yet.
func sheetFor(t api.Table, cases int) *sheet {
	x := &sheet{cases: make([]entry, cases), columns: make([][]int, len(t.Columns)), rows: make([][]bool, len(t.Rows)), isTest: t.Test}
	for i := range x.rows {
		x.rows[i] = make([]bool, cases)
	}
	return x
}

// weigh notes the weights of a data set that checkData accepts.
func (x *sheet) weigh(l []api.Datum) {
	units := map[string]int{}
	for n, d := range l {
		c := &x.cases[n]
		c.weight, _ = weight.ShortOf(d.Weight)
		c.num, _ = strconv.Atoi(d.Weight.Num)
		unit, known := units[d.Weight.Den]
		if !known {
			unit = len(x.units)
			units[d.Weight.Den] = unit
			x.units = append(x.units, c.weight.Den)
		}
		c.unit = unit
	}
}

// sum returns the sum of the weights of some cases. Numerators of short ratios are added first, for each denominator: the sum of all of them is within 64 bits, and many weights have the same denominator.
func (x *sheet) sum(cases []int) whole.Fraction {
	nums := make([]int, len(x.units))
	for _, n := range cases {
		nums[x.cases[n].unit] += x.cases[n].num
	}
	var parts []whole.Fraction
	for unit, num := range nums {
		if num > 0 {
			parts = append(parts, whole.Over(whole.Of(num), x.units[unit]))
		}
	}
	return whole.Total(parts)
}

// sumOf returns the sum of what a function tells of some cases.
func (x *sheet) sumOf(cases []int, tell func(c entry) whole.Fraction) whole.Fraction {
	parts := make([]whole.Fraction, len(cases))
	for i, n := range cases {
		parts[i] = tell(x.cases[n])
	}
	return whole.Total(parts)
}

// where returns those of some cases for which something is so.
func where(cases []int, isSo func(n int) bool) []int {
	var out []int
	for _, n := range cases {
		if isSo(n) {
			out = append(out, n)
		}
	}
	return out
}

// over returns a / b, or 0 if b is 0.
func over(a, b whole.Fraction) whole.Fraction {
	if b.Num.Sign() == 0 {
		return b
	}
	return a.Times(b.Inverse())
}

// counted returns the numbers of the table, or ErrLarge if one of them is not within MaxDigits.
func (x *sheet) counted() (api.Counted, api.Fault) {
	var out api.Counted
	columns := make([]column, len(x.columns))
	for i, cases := range x.columns {
		columns[i] = x.columnOf(cases)
		total, fault := x.totalOf(columns[i])
		if fault != api.OK {
			return api.Counted{}, fault
		}
		out.Totals = append(out.Totals, total)
	}
	for _, isIn := range x.rows {
		cells, fault := x.cellsOf(columns, func(n int) bool { return isIn[n] })
		if fault != api.OK {
			return api.Counted{}, fault
		}
		out.Cells = append(out.Cells, cells)
	}
	return out, api.OK
}

// column is a column of a table.
type column struct {
	cases     []int
	sum       whole.Fraction
	effective whole.Fraction
}

func (x *sheet) columnOf(cases []int) column {
	sum := x.sum(cases)
	squares := x.sumOf(cases, func(c entry) whole.Fraction { return c.weight.Times(c.weight) })
	return column{cases, sum, over(sum.Times(sum), squares)}
}

// totalOf returns what the table tells of all cases of a column.
func (x *sheet) totalOf(c column) (api.ColumnTotal, api.Fault) {
	known := where(c.cases, func(n int) bool { return x.cases[n].of.Kind == api.Number })
	sum := x.sum(known)
	values := x.sumOf(known, func(c entry) whole.Fraction {
		return c.weight.Times(whole.Over(whole.Of(c.of.N), whole.Of(numberOne)))
	})
	var p pen
	total := api.ColumnTotal{
		Cases: len(c.cases), Sum: p.ratio(c.sum), Effective: p.ratio(c.effective),
		Known: len(known), KnownSum: p.ratio(sum), Mean: p.ratio(over(values, sum)),
	}
	return total, p.fault
}

// cellsOf returns the cells of a row in which those cases are for which something is so.
func (x *sheet) cellsOf(columns []column, isIn func(n int) bool) ([]api.TableCell, api.Fault) {
	cells := make([]api.TableCell, len(columns))
	parts := make([]whole.Fraction, len(columns))
	for i, c := range columns {
		cases := where(c.cases, isIn)
		sum := x.sum(cases)
		parts[i] = over(sum, c.sum)
		var p pen
		cells[i] = api.TableCell{Cases: len(cases), Sum: p.ratio(sum), Part: p.ratio(parts[i])}
		if p.fault != api.OK {
			return nil, p.fault
		}
	}
	if x.isTest {
		for i, above := range allAbove(columns, parts) {
			cells[i].Above = above
		}
	}
	return cells, api.OK
}

// numberOne is the N of the Number 1.
const numberOne = 10000

// pen writes numbers as ratios, and remembers an error that one of them has.
type pen struct{ fault api.Fault }

func (p *pen) ratio(f whole.Fraction) api.Ratio {
	r, fault := weight.RatioOf(f)
	if fault != api.OK {
		p.fault = fault
	}
	return r
}
