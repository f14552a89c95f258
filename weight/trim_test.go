package weight

import (
	"strings"
	"testing"

	"canvass/api"
)

// TestTrim holds W6.
func TestTrim(t *testing.T) {
	for _, x := range []struct{ what, people, most, want string }{
		{"nobody", "", "1", "[] 0 0"},
		{"one person", "7/3", "1", "[7/3] 0 0"},
		{"the example", "1, 1, 4", "3/2", "[3/2 3/2 3] 1 0"},
		{"equal weights", "2, 2, 2", "1", "[2 2 2] 0 0"},
		{"nobody is above the bound", "1, 2, 3", "2", "[1 2 3] 0 0"},
		{"at the bound is not above it", "1, 2, 3", "3/2", "[1 2 3] 0 0"},
		{"a bit above it", "1, 2, 3", "4/3", "[10/9 20/9 8/3] 1 0"},
		// The bound is 2; of 1, 2, 3 first 3 is above it, then 2 becomes 8/3.
		{"the mean is the bound", "1, 2, 3", "1", "[2 2 2] 2 0"},
		// The bound is 1111/4; 1000 is above it, then 100 becomes 100 * 3333/4 / 111, then 10 becomes 10 * 1111/2 / 11.
		{"one after the other", "10, 1000, 1, 100", "1", "[1111/4 1111/4 1111/4 1111/4] 3 0"},
		// The bound is 13; without 40, 8 becomes 8 * 39/12.
		{"others become more than twice", "40, 8, 2, 2", "1", "[13 13 13 13] 2 0"},
		// The bound is 15/2; without 13, the others are multiplied by 25/2 / 7, so that 3 becomes 75/14.
		{"some stay below it", "3, 13, 2, 2", "3/2", "[75/14 15/2 25/7 25/7] 1 0"},
		// The bound is 9; without 20, the others are multiplied by 21/10, so that 5 becomes 21/2; without both, by 12/5.
		{"two steps", "20, 5, 3, 2", "6/5", "[9 9 36/5 24/5] 2 0"},
		// The bound is 9; without 18, the others are multiplied by 3/2, so that 6 becomes 9.
		{"at the bound behind a step", "3, 6, 3, 18, 3, 3", "3/2", "[9/2 9 9/2 9 9/2 9/2] 1 0"},
		{"equal weights are together", "20, 20, 1, 1, 1", "3/2", "[129/10 129/10 86/15 86/15 86/15] 2 0"},
		{"a great bound", "1, 999999999999", "999999999999", "[1 999999999999] 0 0"},
	} {
		got, count, fault := Trim(peopleIn(t, x.people), parts(x.most))
		is(t, x.what, show(got, count, fault), x.want)
	}
}

// TestTrimFaults holds the errors of W6 and their order.
func TestTrimFaults(t *testing.T) {
	check := func(what, people string, most api.Ratio, want api.Fault) {
		t.Helper()
		got, count, fault := Trim(peopleIn(t, people), most)
		refuses(t, what, want, got, count, fault)
	}
	for _, x := range unshort {
		check("most "+show(x.r), "1, 2", x.r, x.want)
		check("most "+show(x.r)+" and nobody", "", x.r, x.want)
	}
	for _, most := range []string{"0", "-1", "1/2", "-999999999999", "999999999998/999999999999"} {
		check("most "+most, "1, 2", parts(most), api.ErrRange)
		check("most "+most+" and nobody", "", parts(most), api.ErrRange)
	}
	check("an error of people comes first", "1, 0", parts("2/4"), api.ErrRange)
	check("a long most ahead of its range", "1, 2", parts("-"+strings.Repeat("1", 13)), api.ErrLarge)
	for _, most := range []string{"1", "999999999999", "999999999999/999999999998"} {
		check("most "+most, "1, 1", parts(most), api.OK)
	}
}
