// Package value has the values of answers, days, exact ratios, chance, and the expressions in which conditions, checks and computed values are written. It is described in doc/01-value.md, whose rules V1 to V13 the comments name.
package value

import (
	"cmp"
	"slices"
	"strings"

	"canvass/api"
)

// Check validates a value (V1).
func Check(v api.Value) api.Fault {
	if v.Kind < api.Missing || v.Kind > api.Bool {
		return api.ErrKind
	}
	least, most, usesN := boundsOfN(v.Kind)
	if !usesN && v.N != 0 || v.Kind != api.Text && v.S != "" || v.Kind != api.Choices && len(v.Set) > 0 {
		return api.ErrForm
	}
	switch {
	case usesN && (v.N < least || v.N > most):
		return api.ErrRange
	case v.Kind == api.Text:
		return checkText(v.S)
	case v.Kind == api.Choices:
		return checkSet(v.Set)
	}
	return api.OK
}

// boundsOfN returns the range of N, and whether values of this kind use it.
func boundsOfN(kind int) (int, int, bool) {
	switch kind {
	case api.Special:
		return api.DontKnow, api.NoAnswer, true
	case api.Number:
		return -api.MaxNumber, api.MaxNumber, true
	case api.Choice:
		return 1, api.MaxCode, true
	case api.Day:
		return api.MinDay, api.MaxDay, true
	case api.Bool:
		return 0, 1, true
	}
	return 0, 0, false
}

func checkText(s string) api.Fault {
	if len(s) > api.MaxText {
		return api.ErrLarge
	}
	for i := range len(s) {
		if s[i] < 32 || s[i] > 126 {
			return api.ErrRange
		}
	}
	return api.OK
}

func checkSet(set []int) api.Fault {
	if len(set) > api.MaxSet {
		return api.ErrLarge
	}
	if fault := checkNumbers(set); fault != api.OK {
		return fault
	}
	for i := 1; i < len(set); i++ {
		if set[i] <= set[i-1] {
			return api.ErrOrder
		}
	}
	return api.OK
}

// checkNumbers says ErrRange if one of them is neither a code nor the number of a row.
func checkNumbers(numbers []int) api.Fault {
	for _, n := range numbers {
		if n < 1 || n > api.MaxCode {
			return api.ErrRange
		}
	}
	return api.OK
}

// Compare orders values (V2).
func Compare(a, b api.Value) int {
	return cmp.Or(cmp.Compare(a.Kind, b.Kind), cmp.Compare(a.N, b.N), strings.Compare(a.S, b.S), slices.Compare(a.Set, b.Set))
}

func number(n int) api.Value { return api.Value{Kind: api.Number, N: n} }

func boolean(is bool) api.Value {
	if is {
		return api.Value{Kind: api.Bool, N: 1}
	}
	return api.Value{Kind: api.Bool}
}
