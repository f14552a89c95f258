package edit

import (
	"fmt"
	"math"
	"slices"
	"strings"
	"testing"

	"canvass/api"
	"canvass/value"
)

func TestLeast(t *testing.T) {
	example := []string{"field sex 1,2", "field pregnant 1,2", "edit p: sex 1; pregnant 1"}
	heavy := []string{"field sex 1,2 weight 2", "field pregnant 1,2", "edit p: sex 1; pregnant 1"}
	// All values must be alike.
	alike := func(weights ...int) []string {
		var lines []string
		for i, w := range weights {
			lines = append(lines, fmt.Sprintf("field f%d 1,2 weight %d", i, w))
		}
		for i := range weights[1:] {
			lines = append(lines, fmt.Sprintf("edit e%d: f%d 1; f%d 2", i, i, i+1), fmt.Sprintf("edit g%d: f%d 2; f%d 1", i, i, i+1))
		}
		return lines
	}
	for _, x := range []struct {
		what   string
		lines  []string
		record []int
		want   string
	}{
		{"the example", example, []int{1, 1}, "[0]"}, {"a weight of 2", heavy, []int{1, 1}, "[1]"},
		{"a record that passes", example, []int{1, 2}, "[]"}, {"another one", example, []int{2, 1}, "[]"},
		{"nothing", example, []int{0, 1}, "[0]"}, {"nothing twice", example, []int{0, 0}, "[0 1]"}, {"what is not valid", heavy, []int{7, 1}, "[0]"}, {"both not valid", example, []int{3, 999}, "[0 1]"},
		// What is not valid is to be changed anyway, and can be changed so that nothing else must be.
		{"not valid, heavy", []string{"field a 1,2 weight 1000", "field b 1,2", "edit e: a 1; b 1", "edit f: a 2; b 2"}, []int{0, 2}, "[0]"},
		{"not valid, and one more", []string{"field a 1,2", "field b 1,2", "edit e: b 1"}, []int{0, 1}, "[0 1]"},
		// The sum of weights comes first, then how many fields, then which ones.
		{"two light ones", alike(1, 1, 3), []int{1, 1, 2}, "[0 1]"}, {"a light one", alike(2, 2, 3), []int{1, 1, 2}, "[2]"}, {"as heavy, but fewer", alike(1, 1, 2), []int{1, 1, 2}, "[2]"}, {"as heavy, but fewer, ahead", alike(2, 1, 1), []int{1, 2, 2}, "[0]"},
		{"as heavy, as many", alike(1, 1), []int{1, 2}, "[0]"}, {"two and two", alike(1, 1, 1, 1), []int{1, 2, 1, 2}, "[0 2]"}, {"two and two, around", alike(1, 1, 1, 1), []int{1, 2, 2, 1}, "[0 3]"}, {"of different weights", alike(1, 2, 2, 1), []int{1, 2, 1, 2}, "[0 2]"}, {"of different weights, later", alike(2, 1, 2, 1), []int{1, 2, 1, 2}, "[1 3]"},
		{"six and six", alike(1, 1, 1, 1, 1, 1, 1, 1, 1, 1, 1, 1), []int{2, 1, 1, 1, 1, 1, 1, 2, 2, 2, 2, 2}, "[0 7 8 9 10 11]"}, {"six and six, the others", alike(1, 1, 1, 1, 1, 1, 1, 1, 1, 1, 1, 1), []int{1, 2, 2, 2, 2, 2, 1, 1, 1, 1, 1, 2}, "[0 6 7 8 9 10]"},
		{"1000 and 999", alike(1000, 999), []int{1, 2}, "[1]"}, {"six of 1000", alike(1000, 1000, 1000, 1000, 1000, 1000, 1000, 1000, 1000, 1000, 1000, 1000), []int{2, 2, 2, 2, 2, 2, 1, 1, 1, 1, 1, 1}, "[0 1 2 3 4 5]"}, {"five of 1000", alike(1000, 1000, 1000, 1000, 1000, 1000, 1000, 1000, 1000, 1000, 1000, 1000), []int{2, 2, 2, 2, 2, 2, 1, 1, 1, 2, 1, 1}, "[6 7 8 10 11]"}, {"as heavy as eleven", alike(11, 1, 1, 1, 1, 1, 1, 1, 1, 1, 1, 1), []int{2, 1, 1, 1, 1, 1, 1, 1, 1, 1, 1, 1}, "[0]"}, {"heavier than eleven", alike(12, 1, 1, 1, 1, 1, 1, 1, 1, 1, 1, 1), []int{2, 1, 1, 1, 1, 1, 1, 1, 1, 1, 1, 1}, "[1 2 3 4 5 6 7 8 9 10 11]"},
	} {
		least, fault := Least(planWith(t, x.lines...), x.record)
		is(t, x.what, show(least, fault), x.want+" 0")
	}
	least, fault := Least(planWith(t, "field a 1,2", "edit e:"), []int{1})
	refuses(t, "no record passes", api.ErrNone, least, fault)
	least, fault = Least(planWith(t, "field a 1,2", "edit e:"), []int{1000})
	refuses(t, "no record passes, and a wrong one", api.ErrRange, least, fault)
}

// seedWith returns a seed by which, of so many, one comes first.
func seedWith(t *testing.T, count, first int) string {
	t.Helper()
	for n := range 1000 {
		seed := fmt.Sprint("s", n)
		if order, _ := value.Shuffle(seed, count); order[0] == first {
			return seed
		}
	}
	t.Fatal("no seed")
	return ""
}

func TestImpute(t *testing.T) {
	p := planWith(t, "field a 1,2,3", "field b 1,2,3 weight 3", "field c 1,2 weight 2", "edit e: a 1; b 1")
	impute := func(what string, record []int, donors [][]int, seed, want string) {
		t.Helper()
		repair, fault := Impute(p, record, donors, seed)
		is(t, what, show(repair, fault), want+" 0")
	}
	bad := []int{1, 1, 1} // a is changed
	impute("no donors", bad, nil, "", "{[2 1 1] [0] -1}")
	impute("a donor", bad, [][]int{{3, 1, 1}}, "", "{[3 1 1] [0] 0}")
	impute("a record that passes stays", []int{1, 2, 1}, [][]int{{1, 2, 1}, {2, 2, 1}}, "", "{[1 2 1] [] -1}")
	// A donor must pass, with valid values, and its values must be such that the record passes.
	impute("a donor that fails", bad, [][]int{{1, 1, 1}}, "", "{[2 1 1] [0] -1}")
	impute("a donor whose values are not valid", bad, [][]int{{3, 0, 1}, {3, 1, 9}, {0, 1, 1}, {9, 1, 1}}, "", "{[2 1 1] [0] -1}")
	impute("a donor whose value does not fit", bad, [][]int{{1, 2, 1}}, "", "{[2 1 1] [0] -1}")
	for n := range 10 {
		seed := fmt.Sprint(n)
		impute("the only one that fits", bad, [][]int{{1, 2, 1}, {1, 1, 1}, {3, 3, 2}, {0, 1, 1}}, seed, "{[3 1 1] [0] 2}")
		// Distances: 3 of b, 2 of c; that of a, which is changed, is of no matter.
		impute("the nearest one", bad, [][]int{{2, 2, 1}, {3, 1, 2}, {2, 3, 2}}, seed, "{[3 1 1] [0] 1}")
		impute("the nearest one has all else", bad, [][]int{{2, 1, 2}, {2, 2, 2}, {3, 1, 1}}, seed, "{[3 1 1] [0] 2}")
		impute("values that are not valid are changed, too", []int{0, 2, 0}, [][]int{{2, 3, 2}, {3, 2, 2}}, seed, "{[3 2 2] [0 2] 1}")
	}
	// Of those that are equally near, the first one in the order of the seed.
	donors := [][]int{{2, 2, 1}, {3, 1, 1}, {3, 3, 1}, {2, 1, 1}, {1, 1, 1}, {2, 1, 1}}
	for _, n := range []int{1, 3, 5} {
		impute("the first one of the order", bad, donors, seedWith(t, len(donors), n), fmt.Sprintf("{[%d 1 1] [0] %d}", donors[n][0], n))
	}
	for n := range 30 {
		seed := fmt.Sprint("t", n)
		order, _ := value.Shuffle(seed, len(donors))
		i := slices.IndexFunc(order, func(n int) bool { return n%2 == 1 })
		impute("the order", bad, donors, seed, fmt.Sprintf("{[%d 1 1] [0] %d}", donors[order[i]][0], order[i]))
	}
	// Without a donor, the first record that passes: it is First for these fields.
	p = planWith(t, "field a 1,2,3", "field b 1,2", "field c 1,2", "edit e: a 1", "edit f: a 2; c 1", "edit g: a 1,2; c 2; b 1")
	impute("First", []int{0, 1, 0}, [][]int{{2, 2, 2}}, "", "{[3 1 1] [0 2] -1}")
}

func TestImputeFaults(t *testing.T) {
	good, none := planWith(t, "field a 1,2", "edit e: a 2"), planWith(t, "field a 1,2", "edit e:")
	long := strings.Repeat("s", 101)
	many := slices.Repeat([][]int{{1}}, api.MaxRecords+1)
	wrong := append(many[:api.MaxRecords:api.MaxRecords], []int{1000})
	for _, x := range []struct {
		what   string
		p      api.EditPlan
		record []int
		donors [][]int
		seed   string
		want   api.Fault
	}{
		{"100 bytes", good, []int{2}, many[1:], long[1:], api.OK}, {"a wrong record", none, []int{-1}, wrong, long, api.ErrRange}, {"a record of 2", none, []int{-1, 1}, wrong, long, api.ErrForm}, {"3001 donors", none, []int{2}, wrong, long, api.ErrLarge}, {"a wrong donor", none, []int{2}, [][]int{{1}, {1000}, {}}, long, api.ErrRange}, {"a donor of none", none, []int{2}, [][]int{{1}, {}, {1000}}, long, api.ErrForm}, {"no record passes", none, []int{2}, [][]int{{1}}, long, api.ErrNone}, {"101 bytes", good, []int{2}, [][]int{{1}}, long, api.ErrLarge}, {"101 bytes, a record that passes", good, []int{1}, nil, long, api.ErrLarge},
	} {
		repair, fault := Impute(x.p, x.record, x.donors, x.seed)
		refuses(t, x.what, x.want, repair, fault)
	}
}

func TestRepairs(t *testing.T) {
	p := planWith(t, "field a 1,2,3,4", "field b 1,2", "edit e: a 1; b 1", "edit f: a 2; b 2")
	repairs, fault := Repairs(p, nil, "s")
	is(t, "no records", show(repairs, fault), "[] 0")
	repairs, fault = Repairs(p, [][]int{{1, 1}, {0, 0}}, "s")
	is(t, "no donors", show(repairs, fault), "[{[2 1] [0] -1} {[1 2] [0 1] -1}] 0")
	// Each record gets values of a donor, by its own seed; it is no donor itself, also when it is repaired.
	records := [][]int{{2, 1}, {1, 1}, {3, 1}, {0, 0}, {4, 1}, {1, 1}, {3, 3}}
	donors := []int{0, 2, 4}
	for n := range 20 {
		seed := fmt.Sprint("s", n)
		repairs, fault := Repairs(p, records, seed)
		if fault != api.OK || len(repairs) != len(records) {
			t.Fatal("Repairs", repairs, fault)
		}
		for i, r := range repairs {
			var want string
			switch i {
			case 0, 2, 4:
				want = show(api.Repair{Record: records[i], Donor: -1})
			case 6:
				// The record 2 is the only one that has the same value for a.
				want = "{[3 1] [1] 2}"
			default:
				// All donors are equally near.
				order, _ := value.Shuffle(fmt.Sprint(seed, ".", i), len(donors))
				d := donors[order[0]]
				fields := map[int][]int{1: {0}, 3: {0, 1}, 5: {0}}[i]
				record := slices.Clone(records[i])
				for _, f := range fields {
					record[f] = records[d][f]
				}
				want = show(api.Repair{Record: record, Fields: fields, Donor: d})
			}
			is(t, fmt.Sprint("record ", i, " of ", seed), show(r), want)
		}
	}
}

func TestRepairsFaults(t *testing.T) {
	good, none := planWith(t, "field a 1,2", "edit e: a 2"), planWith(t, "field a 1,2", "edit e:")
	long := strings.Repeat("s", 101)
	many := slices.Repeat([][]int{{2}}, api.MaxRecords+1)
	for _, x := range []struct {
		what    string
		p       api.EditPlan
		records [][]int
		seed    string
		want    api.Fault
	}{
		{"3000 records, 100 bytes", good, many[1:], long[1:], api.OK}, {"3001 records", none, append(slices.Clone(many), []int{-1}), long, api.ErrLarge}, {"a wrong record", none, [][]int{{1}, {-1}, {}}, long, api.ErrRange}, {"a record of none", none, [][]int{{1}, {}, {-1}}, long, api.ErrForm}, {"no record passes", none, [][]int{{1}}, long, api.ErrNone}, {"no record passes, no records", none, nil, "s", api.OK}, {"no record passes, no records, 101 bytes", none, [][]int{}, long, api.ErrLarge}, {"101 bytes", good, [][]int{{1}}, long, api.ErrLarge},
	} {
		repairs, fault := Repairs(x.p, x.records, x.seed)
		refuses(t, x.what, x.want, repairs, fault)
	}
}

func TestReport(t *testing.T) {
	p := planWith(t, "field a 1,2,3", "field b 1,2", "edit e: a 1; b 1", "edit f: a 1", "edit g: a 2; b 2")
	records := [][]int{{1, 1}, {1, 2}, {2, 1}, {0, 0}, {2, 2}, {3, 1}, {9, 1}}
	repairs, fault := Repairs(p, records, "s")
	if fault != api.OK {
		t.Fatal("Repairs", fault)
	}
	report, fault := Report(p, records, repairs)
	is(t, "of Repairs", show(report, fault), "{5 [1 2 1] [5 1]} 0")
	// Repairs can be others than those of Repairs, and leave what fails.
	report, fault = Report(p, [][]int{{1, 1}, {2, 1}}, []api.Repair{{Record: []int{1, 1}, Donor: 1}, {Record: []int{0, 999}, Fields: []int{0, 1}, Donor: -1}})
	is(t, "of others", show(report, fault), "{1 [1 1 0] [1 1]} 0")
	report, fault = Report(p, nil, nil)
	is(t, "of none", show(report, fault), "{0 [0 0 0] [0 0]} 0")
}

func TestReportFaults(t *testing.T) {
	p := planWith(t, "field a 1,2,3", "field b 1,2", "edit e: a 1; b 1")
	type reported struct {
		records [][]int
		l       []api.Repair
	}
	base := func() reported {
		return reported{[][]int{{1, 1}, {2, 1}, {0, 0}}, []api.Repair{{Record: []int{2, 1}, Fields: []int{0}, Donor: 2}, {Record: []int{2, 1}, Donor: -1}, {Record: []int{3, 2}, Fields: []int{0, 1}, Donor: 0}}}
	}
	climb(t, base, func(x reported) api.Fault {
		report, fault := Report(p, x.records, x.l)
		refuses(t, fmt.Sprint("Report ", x), fault, report, fault)
		return fault
	}, []rung[reported]{
		{"3001 records", func(x *reported) {
			x.records = append(x.records, slices.Repeat([][]int{{1, 1}}, api.MaxRecords-2)...)
		}, api.ErrLarge},
		{"a record of 1", func(x *reported) { x.records[1] = []int{1} }, api.ErrForm},
		{"a record with -1", func(x *reported) { x.records[1] = []int{1, -1} }, api.ErrRange},
		{"an element too many", func(x *reported) { x.l = append(x.l, api.Repair{}) }, api.ErrForm},
		{"a Record of 3", func(x *reported) { x.l[0].Record = []int{1000, 1, 1} }, api.ErrForm},
		{"a Record with 1000", func(x *reported) { x.l[0].Record = []int{1, 1000} }, api.ErrRange},
		{"Donor 3", func(x *reported) { x.l[0].Donor = 3 }, api.ErrRange},
		{"Fields of what is as it was", func(x *reported) { x.l[0].Fields = []int{0, 1} }, api.ErrForm},
		{"Donor -2", func(x *reported) { x.l[1].Donor = -2 }, api.ErrRange},
		{"Fields of nothing", func(x *reported) { x.l[1].Fields = []int{1} }, api.ErrForm},
		{"a Record with -1, later", func(x *reported) { x.l[2].Record = []int{-1, 2} }, api.ErrRange},
		{"a field left out", func(x *reported) { x.l[2].Fields = []int{1} }, api.ErrForm},
	})
	for what, x := range map[string]func(x *reported){
		"an element too few":        func(x *reported) { x.l = x.l[:2] },
		"no elements":               func(x *reported) { x.l = nil },
		"Fields down":               func(x *reported) { x.l[2].Fields = []int{1, 0} },
		"a field twice":             func(x *reported) { x.l[2].Fields = []int{0, 0, 1} },
		"a field that is not there": func(x *reported) { x.l[2].Fields = []int{0, 1, 2} },
		"no Fields":                 func(x *reported) { x.l[0].Fields = nil },
		"a Record of none":          func(x *reported) { x.l[0].Record = nil },
	} {
		y := base()
		x(&y)
		report, fault := Report(p, y.records, y.l)
		refuses(t, what, api.ErrForm, report, fault)
	}
	y := base()
	y.l[2].Donor = math.MaxInt
	report, fault := Report(p, y.records, y.l)
	refuses(t, "Donor far away", api.ErrRange, report, fault)
}
