package edit

import (
	"iter"
	"slices"

	"canvass/api"
)

// field is a field made ready.
type field struct {
	api.EditField
	marks map[int]set // of each code: the set that has it alone
	holds []set       // of each code, by its place: the edits whose set has it
}

// plan is a plan that CheckPlan accepts, made ready for many records.
type plan struct {
	fields []field
	full   box   // all records with valid values
	edits  []box // by their numbers
	every  set   // all edits
}

// planOf returns a plan made ready, or the error of CheckPlan.
func planOf(given api.EditPlan) (*plan, api.Fault) {
	if fault := CheckPlan(given); fault != api.OK {
		return nil, fault
	}
	p := &plan{every: upTo(len(given.Edits))}
	for i, f := range given.Fields {
		p.full[i] = upTo(len(f.Codes))
		p.fields = append(p.fields, fieldOf(f))
	}
	for n, e := range given.Edits {
		p.edits = append(p.edits, p.editOf(n, e))
	}
	return p, api.OK
}

// planFor is planOf, with the errors of a list of records behind it.
func planFor(given api.EditPlan, records ...[]int) (*plan, api.Fault) {
	p, fault := planOf(given)
	if fault != api.OK {
		return nil, fault
	}
	if fault := p.checkRecords(records); fault != api.OK {
		return nil, fault
	}
	return p, api.OK
}

func fieldOf(f api.EditField) field {
	out := field{f, map[int]set{}, make([]set, len(f.Codes))}
	for place, code := range f.Codes {
		out.marks[code] = only(place)
	}
	return out
}

// editOf returns the box of an edit, and notes in the fields which codes it has.
func (p *plan) editOf(number int, e api.Edit) box {
	var out box
	for i, codes := range e.Sets {
		f := &p.fields[i]
		for _, code := range codes {
			out[i] |= f.marks[code]
			f.holds[f.marks[code].first()] |= only(number)
		}
	}
	return out
}

// checkRecords has the errors of a list of records (E1).
func (p *plan) checkRecords(records [][]int) api.Fault {
	if len(records) > api.MaxRecords {
		return api.ErrLarge
	}
	for _, record := range records {
		if fault := checkRecord(len(p.fields), record); fault != api.OK {
			return fault
		}
	}
	return api.OK
}

// boxOf returns the box of a record.
func (p *plan) boxOf(record []int) box {
	var out box
	for i, f := range p.fields {
		out[i] = f.marks[record[i]]
	}
	return out
}

// setsOf returns the codes of a box.
func (p *plan) setsOf(b box) [][]int {
	out := make([][]int, len(p.fields))
	for i, f := range p.fields {
		for _, place := range b[i].numbers() {
			out[i] = append(out[i], f.Codes[place])
		}
	}
	return out
}

// isEmpty reports whether a box has no records.
func (p *plan) isEmpty(b box) bool { return slices.Contains(b[:len(p.fields)], 0) }

// failed returns the edits that a record fails.
func (p *plan) failed(record box) set {
	if p.isEmpty(record) {
		return 0
	}
	out := p.every
	for i, f := range p.fields {
		out &= f.holds[record[i].first()]
	}
	return out
}

// passes reports whether a record passes.
func (p *plan) passes(record box) bool { return !p.isEmpty(record) && p.failed(record) == 0 }

// parts divides a box: it tells, in the order of their records, boxes that have each record of it once, with the edits that all records of the part fail.
func (p *plan) parts(whole box) iter.Seq2[box, set] {
	return func(yield func(box, set) bool) {
		if !p.isEmpty(whole) {
			p.divide(whole, 0, p.every, yield)
		}
	}
}

// divide divides a box that has one code for each field ahead of number i, where the edits have that. It reports whether all parts are told.
func (p *plan) divide(whole box, i int, fails set, yield func(box, set) bool) bool {
	if fails == 0 || i == len(p.fields) {
		return yield(whole, fails)
	}
	part := whole
	for rest := whole[i]; rest != 0; rest &= rest - 1 {
		place := rest.first()
		part[i] = only(place)
		if !p.divide(part, i+1, fails&p.fields[i].holds[place], yield) {
			return false
		}
	}
	return true
}

// passing returns boxes that have each record that passes once.
func (p *plan) passing() []box {
	var out []box
	for part, fails := range p.parts(p.full) {
		if fails == 0 {
			out = append(out, part)
		}
	}
	return out
}

// first returns the first record of a box that passes, and whether there is one.
func (p *plan) first(within box) ([]int, bool) {
	for part, fails := range p.parts(within) {
		if fails != 0 {
			continue
		}
		out := make([]int, len(p.fields))
		for i, f := range p.fields {
			out[i] = f.Codes[part[i].first()]
		}
		return out, true
	}
	return nil, false
}

// groups returns those sets of edits that some record fails, and no other ones.
func (p *plan) groups() map[set]bool {
	out := map[set]bool{}
	for _, fails := range p.parts(p.full) {
		out[fails] = true
	}
	return out
}

// needed returns the edits that are left when those that are not needed are taken out in order (E6).
func (p *plan) needed(groups map[set]bool) set {
	left := p.every
	for n := range p.edits {
		isNeeded := false
		for fails := range groups {
			isNeeded = isNeeded || fails&left == only(n)
		}
		if !isNeeded {
			left &^= only(n)
		}
	}
	return left
}
