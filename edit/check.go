package edit

import (
	"slices"

	"canvass/api"
	"canvass/value"
)

// CheckPlan validates a plan (E1).
func CheckPlan(p api.EditPlan) api.Fault {
	if fault := checkFields(p.Fields); fault != api.OK {
		return fault
	}
	mixes := 1
	for _, f := range p.Fields {
		mixes *= len(f.Codes)
	}
	if mixes > api.MaxMixes || len(p.Edits) > api.MaxEdits {
		return api.ErrLarge
	}
	names := map[string]bool{}
	for _, e := range p.Edits {
		if fault := checkEdit(p.Fields, e, names); fault != api.OK {
			return fault
		}
	}
	return api.OK
}

func checkFields(fields []api.EditField) api.Fault {
	switch {
	case len(fields) == 0:
		return api.ErrNone
	case len(fields) > api.MaxFields:
		return api.ErrLarge
	}
	names := map[string]bool{}
	for _, f := range fields {
		if fault := checkName(f.Name, names); fault != api.OK {
			return fault
		}
		if fault := checkCodes(f.Codes); fault != api.OK {
			return fault
		}
		if f.Weight < 1 || f.Weight > api.MaxWeight {
			return api.ErrRange
		}
	}
	return api.OK
}

// checkName adds a name to earlier ones, or has its error.
func checkName(name string, names map[string]bool) api.Fault {
	if !value.IsName(name) {
		return api.ErrName
	}
	if names[name] {
		return api.ErrTwice
	}
	names[name] = true
	return api.OK
}

func checkCodes(codes []int) api.Fault {
	switch {
	case len(codes) == 0:
		return api.ErrNone
	case len(codes) > api.MaxFieldSet:
		return api.ErrLarge
	}
	return checkIncreasing(codes, func(code int) bool { return code >= 1 && code <= api.MaxCode })
}

// checkIncreasing says ErrRange if a number is not one of those that are known, ErrOrder if it is not greater than the one ahead of it.
func checkIncreasing(numbers []int, isKnown func(n int) bool) api.Fault {
	for i, n := range numbers {
		if !isKnown(n) {
			return api.ErrRange
		}
		if i > 0 && n <= numbers[i-1] {
			return api.ErrOrder
		}
	}
	return api.OK
}

// checkEdit has the errors of an edit behind those with some names.
func checkEdit(fields []api.EditField, e api.Edit, names map[string]bool) api.Fault {
	if fault := checkName(e.Name, names); fault != api.OK {
		return fault
	}
	if len(e.Sets) != len(fields) {
		return api.ErrForm
	}
	for i, codes := range e.Sets {
		if len(codes) == 0 {
			return api.ErrNone
		}
		if fault := checkIncreasing(codes, func(code int) bool { return slices.Contains(fields[i].Codes, code) }); fault != api.OK {
			return fault
		}
	}
	return api.OK
}

// checkRecord has the errors of a record of a plan with so many fields (E1).
func checkRecord(fields int, record []int) api.Fault {
	if len(record) != fields {
		return api.ErrForm
	}
	if slices.ContainsFunc(record, func(n int) bool { return n < 0 || n > api.MaxCode }) {
		return api.ErrRange
	}
	return api.OK
}
