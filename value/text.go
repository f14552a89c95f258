package value

import (
	"strconv"
	"strings"

	"canvass/api"
)

// unit is the 1 of a Number, which counts ten-thousandths.
const unit = 10000

// reasons are the texts of Specials, in the order of their reasons.
var reasons = [...]string{"dontknow", "refused", "noanswer"}

// Show returns the text of a value (V3).
func Show(v api.Value) (string, api.Fault) {
	if fault := Check(v); fault != api.OK {
		return "", fault
	}
	return shown(v), api.OK
}

func shown(v api.Value) string {
	switch v.Kind {
	case api.Special:
		return reasons[v.N-api.DontKnow]
	case api.Number:
		return shownNumber(v.N)
	case api.Text:
		return "'" + strings.ReplaceAll(v.S, "'", "''") + "'"
	case api.Choice:
		return "#" + strconv.Itoa(v.N)
	case api.Choices:
		return shownSet(v.Set)
	case api.Day:
		return shownDay(v.N)
	case api.Bool:
		return strconv.FormatBool(v.N == 1)
	}
	return "-"
}

func shownNumber(n int) string {
	sign := ""
	if n < 0 {
		sign, n = "-", -n
	}
	text := sign + strconv.Itoa(n/unit)
	if n%unit == 0 {
		return text
	}
	return text + "." + strings.TrimRight(padded(n%unit, 4), "0")
}

func shownSet(set []int) string {
	texts := make([]string, len(set))
	for i, code := range set {
		texts[i] = "#" + strconv.Itoa(code)
	}
	return "{" + strings.Join(texts, ",") + "}"
}

func shownDay(day int) string {
	year, month, dayOfMonth := civil(day)
	return "@" + padded(year, 4) + "-" + padded(month, 2) + "-" + padded(dayOfMonth, 2)
}

// padded returns a number that is not less than 0 with at least size digits.
func padded(n, size int) string {
	text := strconv.Itoa(n)
	return strings.Repeat("0", max(0, size-len(text))) + text
}

// Read returns the sound value with a text (V3).
func Read(text string) (api.Value, api.Fault) {
	v := meant(text)
	// Of the texts that mean a value just one is its own.
	if own, fault := Show(v); fault != api.OK || own != text {
		return api.Value{}, api.ErrSyntax
	}
	return v, api.OK
}

// meant returns the value that a text means, if it is the text of one; otherwise any value.
func meant(text string) api.Value {
	for i, reason := range reasons {
		if text == reason {
			return api.Value{Kind: api.Special, N: api.DontKnow + i}
		}
	}
	switch {
	case text == "" || text == "-":
		return api.Value{}
	case text == "true" || text == "false":
		return boolean(text == "true")
	case text[0] == '\'':
		return api.Value{Kind: api.Text, S: strings.ReplaceAll(inside(text), "''", "'")}
	case text[0] == '#':
		return api.Value{Kind: api.Choice, N: natural(text[1:])}
	case text[0] == '{':
		return api.Value{Kind: api.Choices, Set: meantSet(inside(text))}
	case text[0] == '@':
		return meantDay(text[1:])
	}
	return meantNumber(text)
}

// inside returns a text without its first and last byte.
func inside(text string) string { return text[1:max(1, len(text)-1)] }

// natural returns the number that a row of digits means, or -1.
func natural(digits string) int {
	n, err := strconv.Atoi(digits)
	if err != nil || n < 0 {
		return -1
	}
	return n
}

func meantSet(text string) []int {
	if text == "" {
		return nil
	}
	// One part more than the limit is enough to be refused.
	parts := strings.SplitN(text, ",", api.MaxSet+1)
	set := make([]int, len(parts))
	for i, part := range parts {
		set[i] = natural(strings.TrimPrefix(part, "#"))
	}
	return set
}

func meantDay(text string) api.Value {
	if len(text) != len("2026-11-17") {
		return api.Value{}
	}
	return Date(natural(text[:4]), natural(text[5:7]), natural(text[8:]))
}

func meantNumber(text string) api.Value {
	digits, below := strings.CutPrefix(text, "-")
	ones, places, _ := strings.Cut(digits, ".")
	if len(ones) > 11 || len(places) > 4 {
		return api.Value{}
	}
	n := natural(ones)*unit + max(0, natural(places+strings.Repeat("0", 4-len(places))))
	if below {
		n = -n
	}
	return number(n)
}
