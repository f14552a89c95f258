package edit

import (
	"cmp"
	"fmt"
	"math/rand"
	"slices"
	"testing"

	"canvass/api"
	"canvass/value"
)

// The functions of this file make the results of the package a second time, by the words of the chapter and by walks through all there is.

func isIn(sets [][]int, record []int) bool {
	for i, codes := range sets {
		if !slices.Contains(codes, record[i]) {
			return false
		}
	}
	return true
}

func failsAgain(p api.EditPlan, record []int) []int {
	var out []int
	for n, e := range p.Edits {
		if isIn(e.Sets, record) {
			out = append(out, n)
		}
	}
	return out
}

func isValidAgain(p api.EditPlan, record []int) bool {
	for i, f := range p.Fields {
		if !slices.Contains(f.Codes, record[i]) {
			return false
		}
	}
	return true
}

func passesAgain(p api.EditPlan, record []int) bool {
	return isValidAgain(p, record) && len(failsAgain(p, record)) == 0
}

func firstAgain(p api.EditPlan, record, free []int) []int {
	for _, other := range allRecords(p) {
		isLike := true
		for i := range record {
			isLike = isLike && (slices.Contains(free, i) || other[i] == record[i])
		}
		if isLike && passesAgain(p, other) {
			return other
		}
	}
	return nil
}

// primesAgain goes through all boxes.
func primesAgain(p api.EditPlan) []api.Edit {
	boxes := [][][]int{nil}
	for _, f := range p.Fields {
		var longer [][][]int
		for _, b := range boxes {
			for _, s := range allSubsets(f.Codes)[1:] {
				longer = append(longer, append(slices.Clone(b), s))
			}
		}
		boxes = longer
	}
	records := slices.DeleteFunc(allRecords(p), func(record []int) bool { return !passesAgain(p, record) })
	closed := slices.DeleteFunc(boxes, func(b [][]int) bool {
		return slices.ContainsFunc(records, func(record []int) bool { return isIn(b, record) })
	})
	var out []api.Edit
	for n, b := range closed {
		isPrime := true
		for m, other := range closed {
			isPrime = isPrime && (n == m || !hasAll(other, b))
		}
		if isPrime {
			out = append(out, api.Edit{Sets: b})
		}
	}
	slices.SortFunc(out, func(a, b api.Edit) int {
		for i := range a.Sets {
			if c := slices.Compare(a.Sets[i], b.Sets[i]); c != 0 {
				return c
			}
		}
		return 0
	})
	return out
}

// hasAll reports whether a box has all codes of another one.
func hasAll(b, other [][]int) bool {
	for i := range b {
		if slices.ContainsFunc(other[i], func(code int) bool { return !slices.Contains(b[i], code) }) {
			return false
		}
	}
	return true
}

// takenOut takes edits out in order, if then still all records that isBad says fail.
func takenOut(p api.EditPlan, isBad func(record []int) bool) (out, left []int) {
	bad := slices.DeleteFunc(allRecords(p), func(record []int) bool { return !isBad(record) })
	for n := range p.Edits {
		var fewer api.EditPlan
		for m, e := range p.Edits {
			if m != n && !slices.Contains(out, m) {
				fewer.Edits = append(fewer.Edits, e)
			}
		}
		if slices.ContainsFunc(bad, func(record []int) bool { return len(failsAgain(fewer, record)) == 0 }) {
			left = append(left, n)
		} else {
			out = append(out, n)
		}
	}
	return out, left
}

func weightOf(p api.EditPlan, fields []int) int {
	sum := 0
	for _, i := range fields {
		sum += p.Fields[i].Weight
	}
	return sum
}

func leastAgain(p api.EditPlan, record []int) []int {
	all := allSubsets(upward(len(record)))
	for _, fields := range all {
		for i := range fields {
			fields[i]--
		}
	}
	all = slices.DeleteFunc(all, func(fields []int) bool { return firstAgain(p, record, fields) == nil })
	return slices.MinFunc(all, func(a, b []int) int {
		return cmp.Or(cmp.Compare(weightOf(p, a), weightOf(p, b)), cmp.Compare(len(a), len(b)), slices.Compare(a, b))
	})
}

func imputeAgain(p api.EditPlan, record []int, donors [][]int, seed string) api.Repair {
	fields := leastAgain(p, record)
	if len(fields) == 0 {
		return api.Repair{Record: record, Donor: -1}
	}
	out, nearest := api.Repair{Fields: fields, Record: firstAgain(p, record, fields), Donor: -1}, 0
	order, _ := value.Shuffle(seed, len(donors))
	for _, n := range order {
		with, distance := slices.Clone(record), 0
		for i := range record {
			if slices.Contains(fields, i) {
				with[i] = donors[n][i]
			} else if donors[n][i] != record[i] {
				distance += p.Fields[i].Weight
			}
		}
		if passesAgain(p, donors[n]) && passesAgain(p, with) && (out.Donor < 0 || distance < nearest) {
			out.Record, out.Donor, nearest = with, n, distance
		}
	}
	return out
}

func repairsAgain(p api.EditPlan, records [][]int, seed string) []api.Repair {
	var donors [][]int
	var numbers []int
	for n, record := range records {
		if passesAgain(p, record) {
			donors, numbers = append(donors, record), append(numbers, n)
		}
	}
	var out []api.Repair
	for n, record := range records {
		r := imputeAgain(p, record, donors, fmt.Sprint(seed, ".", n))
		if r.Donor >= 0 {
			r.Donor = numbers[r.Donor]
		}
		out = append(out, r)
	}
	return out
}

func reportAgain(p api.EditPlan, records [][]int, l []api.Repair) api.EditReport {
	out := api.EditReport{Failed: make([]int, len(p.Edits)), Fields: make([]int, len(p.Fields))}
	for n, record := range records {
		for i := range p.Edits {
			if slices.Contains(failsAgain(p, record), i) {
				out.Failed[i]++
			}
		}
		if !slices.Equal(record, l[n].Record) {
			out.Changed++
		}
		for i := range p.Fields {
			if record[i] != l[n].Record[i] {
				out.Fields[i]++
			}
		}
	}
	return out
}

// TestRulesByChance holds what edits say (E3 to E6).
func TestRulesByChance(t *testing.T) {
	r := rand.New(rand.NewSource(1))
	clashes, rich := 0, 0
	for range 2000 {
		p := randomPlan(r)
		text, _ := Text(p)
		for range 5 {
			record := randomRecord(r, p)
			fails, fault := Fails(p, record)
			is(t, fmt.Sprint("Fails ", record, "\n", text), show(fails, fault), show(failsAgain(p, record), 0))
			passes, fault := Passes(p, record)
			is(t, fmt.Sprint("Passes ", record, "\n", text), show(passes, fault), show(passesAgain(p, record), 0))
			free := allSubsets(upward(len(record)))[r.Intn(1<<len(record))]
			for i := range free {
				free[i]--
			}
			first, is1, fault := First(p, record, free)
			want := firstAgain(p, record, free)
			is(t, fmt.Sprint("First ", record, free, "\n", text), show(first, is1, fault), show(want, want != nil, 0))
		}
		primes, fault := Primes(p)
		want := primesAgain(p)
		is(t, "Primes\n"+text, show(primes, fault), show(want, 0))
		if len(want) > 4 {
			rich++
		}
		redundant, fault := Redundant(p)
		out, _ := takenOut(p, func(record []int) bool { return !passesAgain(p, record) })
		is(t, "Redundant\n"+text, show(redundant, fault), show(out, 0))
		clash, none, fault := Clash(p)
		if slices.ContainsFunc(allRecords(p), func(record []int) bool { return passesAgain(p, record) }) {
			is(t, "Clash\n"+text, show(clash, none, fault), "[] false 0")
			continue
		}
		clashes++
		_, left := takenOut(p, func([]int) bool { return true })
		is(t, "Clash\n"+text, show(clash, none, fault), show(left, true, 0))
	}
	if clashes < 200 || clashes > 1500 || rich < 100 {
		t.Error("the plans are too much alike", clashes, rich)
	}
}

// TestChangesByChance holds the changes of records (E7 to E9).
func TestChangesByChance(t *testing.T) {
	r := rand.New(rand.NewSource(2))
	taken, filled := 0, 0
	for range 400 {
		p := randomPlan(r)
		text, _ := Text(p)
		records := randomRecords(r, p, r.Intn(10))
		record, seed := randomRecord(r, p), fmt.Sprint("s", r.Intn(100))
		least, fault := Least(p, record)
		repair, imputeFault := Impute(p, record, records, seed)
		repairs, repairsFault := Repairs(p, records, seed)
		if !slices.ContainsFunc(allRecords(p), func(record []int) bool { return passesAgain(p, record) }) {
			refuses(t, "Least\n"+text, api.ErrNone, least, fault)
			refuses(t, "Impute\n"+text, api.ErrNone, repair, imputeFault)
			if len(records) > 0 {
				refuses(t, "Repairs\n"+text, api.ErrNone, repairs, repairsFault)
			}
			continue
		}
		is(t, fmt.Sprint("Least ", record, "\n", text), show(least, fault), show(leastAgain(p, record), 0))
		is(t, fmt.Sprint("Impute ", record, records, seed, "\n", text), show(repair, imputeFault), show(imputeAgain(p, record, records, seed), 0))
		is(t, fmt.Sprint("Repairs ", records, seed, "\n", text), show(repairs, repairsFault), show(repairsAgain(p, records, seed), 0))
		for _, x := range append(repairs, repair) {
			if !passesAgain(p, x.Record) {
				t.Error("a repaired record fails", x, text)
			}
			if x.Donor >= 0 {
				taken++
			} else if len(x.Fields) > 0 {
				filled++
			}
		}
		report, fault := Report(p, records, repairs)
		is(t, fmt.Sprint("Report ", records, repairs, "\n", text), show(report, fault), show(reportAgain(p, records, repairs), 0))
	}
	if taken < 200 || filled < 200 {
		t.Error("the repairs are too much alike", taken, filled)
	}
}

// TestLargePlans holds, for plans at the bounds, that primes say what edits say (E5), and that repairs pass.
func TestLargePlans(t *testing.T) {
	r := rand.New(rand.NewSource(3))
	for _, sizes := range [][]int{{2, 2, 2, 2, 2, 2, 2, 2, 2, 3, 3, 3}, {20, 20, 20, 2}, {10, 20, 20, 5}} {
		p := api.EditPlan{}
		for i, n := range sizes {
			p.Fields = append(p.Fields, api.EditField{Name: fmt.Sprint("f", i), Codes: upward(n), Weight: 1 + r.Intn(5)})
		}
		for n := range 10 {
			e := api.Edit{Name: fmt.Sprint("e", n)}
			for i, f := range p.Fields {
				if i < 2 || r.Intn(4) == 0 {
					e.Sets = append(e.Sets, f.Codes[n*len(f.Codes)/10:][:1+r.Intn(max(1, len(f.Codes)/10))])
				} else {
					e.Sets = append(e.Sets, f.Codes)
				}
			}
			p.Edits = append(p.Edits, e)
		}
		primes, fault := Primes(p)
		if fault != api.OK || len(primes) == 0 {
			t.Fatal("Primes", sizes, len(primes), fault)
		}
		byPrimes := p
		byPrimes.Edits = primes
		for _, record := range allRecords(p) {
			if fails := failsAgain(p, record); (len(fails) == 0) != (len(failsAgain(byPrimes, record)) == 0) {
				t.Fatal("a record fails edits, or primes, but not both", sizes, record, fails)
			}
		}
		records := randomRecords(r, p, api.MaxRecords)
		repairs, fault := Repairs(p, records, "s")
		if fault != api.OK {
			t.Fatal("Repairs", fault)
		}
		for _, x := range repairs {
			if !passesAgain(p, x.Record) {
				t.Fatal("a repaired record fails", x)
			}
		}
		if _, fault := Report(p, records, repairs); fault != api.OK {
			t.Error("Report", fault)
		}
	}
}
