package edit

import (
	"strconv"
	"strings"

	"canvass/api"
)

// Text returns the text of a plan (E2).
func Text(p api.EditPlan) (string, api.Fault) {
	if fault := CheckPlan(p); fault != api.OK {
		return "", fault
	}
	var out strings.Builder
	for _, f := range p.Fields {
		out.WriteString("field " + f.Name + " " + codesText(f.Codes) + " weight " + strconv.Itoa(f.Weight) + "\n")
	}
	for _, e := range p.Edits {
		out.WriteString("edit " + e.Name + ":" + setsText(p.Fields, e.Sets) + "\n")
	}
	if out.Len() > api.MaxEditsText {
		return "", api.ErrLarge
	}
	return out.String(), api.OK
}

// setsText returns the text of those sets that are not full.
func setsText(fields []api.EditField, sets [][]int) string {
	var texts []string
	for i, f := range fields {
		// A set that is increasing, and has as many codes, has all of them.
		if len(sets[i]) < len(f.Codes) {
			texts = append(texts, " "+f.Name+" "+codesText(sets[i]))
		}
	}
	return strings.Join(texts, ";")
}

func codesText(codes []int) string {
	texts := make([]string, len(codes))
	for i, code := range codes {
		texts[i] = strconv.Itoa(code)
	}
	return strings.Join(texts, ",")
}
