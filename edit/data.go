package edit

import (
	"slices"

	"canvass/api"
	"canvass/fresh"
	"canvass/value"
)

// place is a Key that can be held against others. Numbers of rows are not 0, so rows of different lengths differ.
type place struct {
	name string
	row  [api.MaxLoops]int
}

// checkData has the errors of the data of a case (E10).
func checkData(data []api.Given) api.Fault {
	if len(data) > api.MaxRoute {
		return api.ErrLarge
	}
	known := map[place]bool{}
	for _, g := range data {
		if fault := checkGiven(g); fault != api.OK {
			return fault
		}
		at := place{name: g.Key.Name}
		copy(at.row[:], g.Key.Row)
		if known[at] {
			return api.ErrTwice
		}
		known[at] = true
	}
	return api.OK
}

// checkGiven has the errors of an element of data alone.
func checkGiven(g api.Given) api.Fault {
	switch {
	case !value.IsName(g.Key.Name):
		return api.ErrName
	case len(g.Key.Row) > api.MaxLoops:
		return api.ErrForm
	case slices.ContainsFunc(g.Key.Row, func(n int) bool { return n < 1 || n > api.MaxCode }):
		return api.ErrRange
	}
	return value.Check(g.Value)
}

// recordOf returns the record of data (E10).
func recordOf(fields []api.EditField, data []api.Given) []int {
	codes := map[string]int{}
	for _, g := range data {
		if len(g.Key.Row) == 0 && g.Value.Kind == api.Choice {
			codes[g.Key.Name] = g.Value.N
		}
	}
	out := make([]int, len(fields))
	for i, f := range fields {
		out[i] = codes[f.Name]
	}
	return out
}

// changed returns data with a record (E10).
func changed(fields []api.EditField, data []api.Given, record []int) []api.Given {
	codes := map[string]int{}
	for _, i := range differing(record, recordOf(fields, data)) {
		codes[fields[i].Name] = record[i]
	}
	var out []api.Given
	put := func(name string) {
		if code := codes[name]; code != 0 {
			out = append(out, api.Given{Key: api.Key{Name: name}, Value: api.Value{Kind: api.Choice, N: code}})
		}
		delete(codes, name)
	}
	for _, g := range data {
		if _, is := codes[g.Key.Name]; is && len(g.Key.Row) == 0 {
			put(g.Key.Name)
		} else {
			out = append(out, fresh.Given(g))
		}
	}
	for _, f := range fields {
		put(f.Name)
	}
	return out
}
