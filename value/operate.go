package value

import (
	"math/bits"
	"slices"
	"strings"

	"canvass/api"
)

// The functions of this file compute with values of kinds that fit; a value that is missing is Missing (V12).

func isMissing(v api.Value) bool { return v.Kind == api.Missing }

func isTrue(v api.Value) bool { return v.Kind == api.Bool && v.N == 1 }

// operate returns the value of an operation, but for those about an answer.
func operate(op int, args []api.Value) api.Value {
	switch op {
	case api.OpNot:
		return boolean(!isTrue(args[0]))
	case api.OpAnd:
		return boolean(areTrue(args))
	case api.OpOr:
		return boolean(slices.ContainsFunc(args, isTrue))
	case api.OpIf:
		if isTrue(args[0]) {
			return args[1]
		}
		return args[2]
	case api.OpElse:
		if isMissing(args[0]) {
			return args[1]
		}
		return args[0]
	}
	missing := slices.ContainsFunc(args, isMissing)
	switch op {
	case api.OpEqual, api.OpUnequal, api.OpLess, api.OpAtMost, api.OpGreater, api.OpAtLeast, api.OpIn, api.OpHas, api.OpBegins, api.OpHolds:
		return boolean(!missing && holds(op, args[0], args[1]))
	}
	if missing {
		return api.Value{}
	}
	return computed(op, args)
}

func areTrue(l []api.Value) bool {
	return !slices.ContainsFunc(l, func(v api.Value) bool { return !isTrue(v) })
}

// holds tells a comparison of two values that are not missing.
func holds(op int, a, b api.Value) bool {
	switch op {
	case api.OpEqual:
		return Compare(a, b) == 0
	case api.OpUnequal:
		return Compare(a, b) != 0
	case api.OpLess:
		return Compare(a, b) < 0
	case api.OpAtMost:
		return Compare(a, b) <= 0
	case api.OpGreater:
		return Compare(a, b) > 0
	case api.OpAtLeast:
		return Compare(a, b) >= 0
	case api.OpIn:
		return slices.Contains(b.Set, a.N)
	case api.OpHas:
		return slices.Contains(a.Set, b.N)
	case api.OpBegins:
		return strings.HasPrefix(a.S, b.S)
	}
	return strings.Contains(a.S, b.S)
}

// computed returns the value of an operation all of whose Args are there.
func computed(op int, args []api.Value) api.Value {
	first := args[0]
	switch op {
	case api.OpLeast:
		return slices.MinFunc(args, Compare)
	case api.OpMost:
		return slices.MaxFunc(args, Compare)
	case api.OpSize:
		return number((len(first.Set) + len(first.S)) * unit)
	case api.OpCode:
		return number(first.N * unit)
	case api.OpLower:
		return api.Value{Kind: api.Text, S: lower(first.S)}
	case api.OpJoin:
		if len(first.S)+len(args[1].S) > api.MaxText {
			return api.Value{}
		}
		return api.Value{Kind: api.Text, S: first.S + args[1].S}
	case api.OpYear, api.OpMonth, api.OpDayOf:
		return partOfDate(op, first.N)
	case api.OpDays:
		return number((args[1].N - first.N) * unit)
	case api.OpAge:
		return age(first.N, args[1].N)
	case api.OpLater:
		return later(first.N, args[1].N)
	case api.OpNeg, api.OpAbs, api.OpFloor, api.OpRound:
		return limited(alone(op, first.N))
	}
	return calculated(op, first.N, args[1].N)
}

func lower(text string) string {
	small := []byte(text)
	for i, b := range small {
		if b >= 'A' && b <= 'Z' {
			small[i] = b - 'A' + 'a'
		}
	}
	return string(small)
}

func partOfDate(op, day int) api.Value {
	year, month, dayOfMonth := civil(day)
	switch op {
	case api.OpYear:
		return number(year * unit)
	case api.OpMonth:
		return number(month * unit)
	}
	return number(dayOfMonth * unit)
}

func age(from, to int) api.Value {
	if to < from {
		return api.Value{}
	}
	fromYear, _, _ := civil(from)
	toYear, _, _ := civil(to)
	years := toYear - fromYear
	// The year of the last birthday is that of the second day, or the one ahead of it.
	if Months(from, 12*years).N > to {
		years--
	}
	return number(years * unit)
}

func later(day, days int) api.Value {
	if days%unit != 0 || !isDay(day+days/unit) {
		return api.Value{}
	}
	return api.Value{Kind: api.Day, N: day + days/unit}
}

// limited returns a Number, or Missing if it is out of range.
func limited(n int) api.Value {
	if n < -api.MaxNumber || n > api.MaxNumber {
		return api.Value{}
	}
	return number(n)
}

func alone(op, n int) int {
	switch op {
	case api.OpNeg:
		return -n
	case api.OpAbs:
		return max(n, -n)
	case api.OpFloor:
		return n - rest(n, unit)
	}
	if n < 0 {
		return (n - unit/2) / unit * unit
	}
	return (n + unit/2) / unit * unit
}

// rest returns a modulo b, which has the sign of b.
func rest(a, b int) int { return (a%b + b) % b }

func calculated(op, a, b int) api.Value {
	switch {
	case op == api.OpAdd:
		return limited(a + b)
	case op == api.OpSub:
		return limited(a - b)
	case op == api.OpMul:
		return scaled(a, b, unit)
	case b == 0:
		return api.Value{}
	case op == api.OpDiv:
		return scaled(a, unit, b)
	}
	return number(rest(a, b))
}

// scaled returns the Number nearest to a * b / c, of two equally near ones the one further from 0. The product has up to 128 bits.
func scaled(a, b, c int) api.Value {
	high, low := bits.Mul64(size(a), size(b))
	if high >= size(c) {
		return api.Value{}
	}
	quotient, rest := bits.Div64(high, low, size(c))
	if quotient > api.MaxNumber {
		return api.Value{}
	}
	n := int(quotient)
	if rest >= size(c)-rest {
		n++
	}
	if (a < 0) != (b < 0) != (c < 0) {
		n = -n
	}
	return limited(n)
}

func size(n int) uint64 { return uint64(max(n, -n)) }

// aggregate returns the value of an aggregate over the values of its Arg.
func aggregate(op int, values []api.Value) api.Value {
	switch op {
	case api.OverCount:
		return number(len(only(values, isTrue)) * unit)
	case api.OverAny:
		return boolean(slices.ContainsFunc(values, isTrue))
	case api.OverAll:
		return boolean(areTrue(values))
	}
	known := only(values, func(v api.Value) bool { return !isMissing(v) })
	switch {
	case op == api.OverSum:
		// At most MaxCode rows have values, so the sum stays far from the bounds of an int.
		sum := 0
		for _, v := range known {
			sum += v.N
		}
		return limited(sum)
	case len(known) == 0:
		return api.Value{}
	case op == api.OverLeast:
		return slices.MinFunc(known, Compare)
	}
	return slices.MaxFunc(known, Compare)
}

func only(values []api.Value, belongs func(v api.Value) bool) []api.Value {
	var out []api.Value
	for _, v := range values {
		if belongs(v) {
			out = append(out, v)
		}
	}
	return out
}
