package study

import (
	"slices"

	"canvass/api"
)

// checkTable has the errors of CheckTable behind that of the form (T3).
func (s *study) checkTable(t api.Table) api.Fault {
	if len(t.Base) > 1 || len(t.Of) > 1 {
		return api.ErrForm
	}
	if fault := s.checkExprs(t.Base, api.Bool); fault != api.OK {
		return fault
	}
	if len(t.Rows) == 0 || len(t.Columns) == 0 {
		return api.ErrNone
	}
	if len(t.Rows) > api.MaxTableAxis || len(t.Columns) > api.MaxTableAxis {
		return api.ErrLarge
	}
	for _, line := range slices.Concat(t.Rows, t.Columns) {
		if fault := checkTitle(line.Title); fault != api.OK {
			return fault
		}
		if fault := s.checkExpr(line.If, api.Bool); fault != api.OK {
			return fault
		}
	}
	return s.checkExprs(t.Of, api.Number)
}

// count is Count behind the error of the form (T4).
func (s *study) count(t api.Table, l []api.Datum) (api.Counted, api.Fault) {
	if fault := s.checkTable(t); fault != api.OK {
		return api.Counted{}, fault
	}
	x, fault := s.sheetOf(t, l)
	if fault != api.OK {
		return api.Counted{}, fault
	}
	return x.counted()
}

// sheetOf returns the sheet of a table that checkTable accepts, or the error of a data set.
func (s *study) sheetOf(t api.Table, l []api.Datum) (*sheet, api.Fault) {
	x := sheetFor(t, min(len(l), api.MaxDataCases))
	base, rows, columns := s.areTrue(t.Base), s.areTrue(conditions(t.Rows)), s.areTrue(conditions(t.Columns))
	of := s.areTold(t.Of)
	fault := s.eachScene(l, func(n int) {
		isFalse := func(isTrue func() bool) bool { return !isTrue() }
		if slices.ContainsFunc(base, isFalse) {
			return
		}
		for i, isTrue := range rows {
			x.rows[i][n] = isTrue()
		}
		for i, isTrue := range columns {
			if isTrue() {
				x.columns[i] = append(x.columns[i], n)
			}
		}
		for _, tell := range of {
			x.cases[n].of = tell()
		}
	})
	if fault != api.OK {
		return nil, fault
	}
	x.weigh(l)
	return x, api.OK
}

// conditions returns what makes cases stand in lines.
func conditions(lines []api.Line) []api.Expr {
	out := make([]api.Expr, len(lines))
	for i, line := range lines {
		out[i] = line.If
	}
	return out
}
