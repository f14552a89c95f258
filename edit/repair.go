package edit

import (
	"math"
	"slices"
	"strconv"

	"canvass/api"
	"canvass/value"
)

// maxSeed is how many bytes a seed of Impute has at most.
const maxSeed = 100

// cost returns what a change of a field costs. Sums of costs are in the order of E7: first by the sums of Weights, then by how many fields they are of, then by the fields: each takes off more than all that come behind it.
func (p *plan) cost(field int) int {
	return p.fields[field].Weight<<(2*api.MaxFields) + 1<<api.MaxFields - 1<<(api.MaxFields-1-field)
}

// least returns the fields of Least (E7) for a record, where some records pass. Since all Weights are positive, they are those in which it differs from some record that passes.
func (p *plan) least(record box, passing []box) set {
	costs := make([]int, len(p.fields))
	for i := range costs {
		costs[i] = p.cost(i)
	}
	out, best := set(0), math.MaxInt
	for n := range passing {
		changes, cost := set(0), 0
		for i, c := range costs {
			if record[i]&passing[n][i] != 0 {
				continue
			}
			changes |= only(i)
			if cost += c; cost >= best {
				break
			}
		}
		if cost < best {
			out, best = changes, cost
		}
	}
	return out
}

// donor is a record whose values can be taken: the one with this number in its list.
type donor struct {
	number int
	record []int
	box    box
	passes bool
}

// mender repairs records.
type mender struct {
	*plan
	passing []box // at least one, if there is something to repair
	donors  []donor
}

func (m *mender) addDonor(number int, record []int) {
	b := m.boxOf(record)
	m.donors = append(m.donors, donor{number, record, b, m.passes(b)})
}

// repairs repairs the records of a list, with those that pass as donors (E9).
func (m *mender) repairs(records [][]int, seed string) []api.Repair {
	for n, record := range records {
		if m.passes(m.boxOf(record)) {
			m.addDonor(n, record)
		}
	}
	var out []api.Repair
	for n, record := range records {
		out = append(out, m.repair(record, seed+"."+strconv.Itoa(n)))
	}
	return out
}

// repair repairs a record (E8).
func (m *mender) repair(record []int, seed string) api.Repair {
	b := m.boxOf(record)
	if m.passes(b) {
		return api.Repair{Record: slices.Clone(record), Donor: -1}
	}
	fields := m.least(b, m.passing)
	out := api.Repair{Fields: fields.numbers()}
	if d := m.donorFor(b, fields, seed); d != nil {
		out.Donor, out.Record = d.number, slices.Clone(record)
		for _, i := range out.Fields {
			out.Record[i] = d.record[i]
		}
		return out
	}
	out.Donor = -1
	out.Record, _ = m.first(mixed(b, m.full, fields))
	return out
}

// donorFor returns the donor whose values some fields of a record get, or nil.
func (m *mender) donorFor(record box, fields set, seed string) *donor {
	order, _ := value.Shuffle(seed, len(m.donors))
	var out *donor
	least := math.MaxInt
	for _, n := range order {
		d := &m.donors[n]
		if !d.passes {
			continue
		}
		if distance := m.distance(record, d.box, fields); distance < least && m.passes(mixed(record, d.box, fields)) {
			out, least = d, distance
		}
	}
	return out
}

// distance returns the sum of the Weights of those fields, other than some, in which two records differ.
func (p *plan) distance(a, b box, but set) int {
	sum := 0
	for i, f := range p.fields {
		if !but.has(i) && a[i] != b[i] {
			sum += f.Weight
		}
	}
	return sum
}

// mixed returns a box with the sets of another one for some fields.
func mixed(b, other box, fields set) box {
	for _, i := range fields.numbers() {
		b[i] = other[i]
	}
	return b
}

// checkRepairs has the errors of what became of records (E9).
func (p *plan) checkRepairs(records [][]int, l []api.Repair) api.Fault {
	if len(l) != len(records) {
		return api.ErrForm
	}
	for n, r := range l {
		if fault := checkRecord(len(p.fields), r.Record); fault != api.OK {
			return fault
		}
		if r.Donor < -1 || r.Donor >= len(records) {
			return api.ErrRange
		}
		if !slices.Equal(r.Fields, differing(r.Record, records[n])) {
			return api.ErrForm
		}
	}
	return api.OK
}

// differing returns the numbers of the fields in which two records differ.
func differing(a, b []int) []int {
	var out []int
	for i := range a {
		if a[i] != b[i] {
			out = append(out, i)
		}
	}
	return out
}

// report counts what Report tells (E9).
func (p *plan) report(records [][]int, l []api.Repair) api.EditReport {
	out := api.EditReport{Failed: make([]int, len(p.edits)), Fields: make([]int, len(p.fields))}
	for _, record := range records {
		for _, n := range p.failed(p.boxOf(record)).numbers() {
			out.Failed[n]++
		}
	}
	for _, r := range l {
		if len(r.Fields) > 0 {
			out.Changed++
		}
		for _, i := range r.Fields {
			out.Fields[i]++
		}
	}
	return out
}
