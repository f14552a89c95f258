package study

import (
	"canvass/api"
	"canvass/interview"
	"canvass/value"
	"canvass/weight"
)

// study is a form made ready for data sets and tables of it.
type study struct {
	*book
	guide interview.Guide
	board value.Board // the scene of the case at hand
}

// studyOf returns the study of a form, or the error of quest.Check for it.
func studyOf(f api.Form) (*study, api.Fault) {
	guide, fault := interview.GuideOf(f)
	if fault != api.OK {
		return nil, fault
	}
	return &study{bookWith(f, guide.Blank().Cells), guide, guide.Board()}, api.OK
}

// checkData has the errors of CheckData behind that of the form (T1).
func (s *study) checkData(l []api.Datum) api.Fault {
	return s.eachRoute(l, func(int, api.Route) {})
}

// eachRoute has the same errors. It calls do for each case ahead of the first one that has an error, with its number and its route.
func (s *study) eachRoute(l []api.Datum, do func(n int, route api.Route)) api.Fault {
	if len(l) > api.MaxDataCases {
		return api.ErrLarge
	}
	for n, d := range l {
		if d.Id < 1 || d.Id > api.MaxId {
			return api.ErrRange
		}
		if n > 0 && d.Id <= l[n-1].Id {
			return api.ErrOrder
		}
		if fault := checkWeight(d.Weight); fault != api.OK {
			return fault
		}
		route, fault := s.routeOf(d.Seed, d.Given)
		if fault != api.OK {
			return fault
		}
		do(n, route)
	}
	return api.OK
}

// eachScene is eachRoute, where the board is the scene of the case when do is called.
func (s *study) eachScene(l []api.Datum, do func(n int)) api.Fault {
	return s.eachRoute(l, func(n int, route api.Route) {
		interview.Lay(route, s.board)
		do(n)
	})
}

// checkWeight has the errors of the weight of a case.
func checkWeight(r api.Ratio) api.Fault {
	f, fault := weight.ShortOf(r)
	if fault != api.OK {
		return fault
	}
	if f.Num.Sign() <= 0 {
		return api.ErrRange
	}
	return api.OK
}

// routeOf is interview.RouteOf.
func (s *study) routeOf(seed string, given []api.Given) (api.Route, api.Fault) {
	if fault := interview.CheckSeed(seed); fault != api.OK {
		return api.Route{}, fault
	}
	answers, fault := s.guide.AnswersOf(given)
	if fault != api.OK {
		return api.Route{}, fault
	}
	return s.guide.RouteOf(seed, answers)
}

// checkExpr has the errors of an expression of a table for a kind (T3).
func (s *study) checkExpr(e api.Expr, kind int) api.Fault {
	got, fault := s.board.TypeOf(e, nil)
	if fault != api.OK {
		return fault
	}
	if got != kind {
		return api.ErrType
	}
	return api.OK
}

// checkExprs has those of each one of some expressions.
func (s *study) checkExprs(l []api.Expr, kind int) api.Fault {
	for _, e := range l {
		if fault := s.checkExpr(e, kind); fault != api.OK {
			return fault
		}
	}
	return api.OK
}

// told returns a function that tells the value of an expression, of which checkExpr has no error, for the case at hand.
func (s *study) told(e api.Expr) func() api.Value {
	meaning, _ := s.board.Meaning(e, nil)
	return func() api.Value {
		v, _ := meaning(nil)
		return v
	}
}

// areTold is told for each one of some expressions.
func (s *study) areTold(l []api.Expr) []func() api.Value {
	out := make([]func() api.Value, len(l))
	for i, e := range l {
		out[i] = s.told(e)
	}
	return out
}

// areTrue is areTold for conditions.
func (s *study) areTrue(l []api.Expr) []func() bool {
	out := make([]func() bool, len(l))
	for i, tell := range s.areTold(l) {
		out[i] = func() bool { return tell().N == 1 }
	}
	return out
}
