package sample

import (
	"fmt"
	"math"
	"math/rand"
	"slices"
	"testing"

	"canvass/api"
)

// attempts returns attempts from pairs of a minute and an outcome.
func attempts(pairs ...int) []api.Attempt {
	var out []api.Attempt
	for i := 0; i < len(pairs); i += 2 {
		out = append(out, api.Attempt{Minute: pairs[i], Outcome: pairs[i+1]})
	}
	return out
}

func windows(pairs ...int) []api.Window {
	var out []api.Window
	for i := 0; i < len(pairs); i += 2 {
		out = append(out, api.Window{From: pairs[i], To: pairs[i+1]})
	}
	return out
}

func TestOutcome(t *testing.T) {
	for _, x := range []struct {
		l    []api.Attempt
		want string
	}{
		{nil, "7 0"}, {attempts(0, 7), "7 0"}, {attempts(1, 6, 2, 4), "4 0"}, {attempts(1, 4, 2, 6), "4 0"},
		{attempts(5, 7, 5, 6, 5, 5, 5, 4, 5, 3, 5, 2, 5, 1), "1 0"}, {attempts(5, 2, 6, 3), "2 0"}, {attempts(5, 4, 6, 3), "3 0"}, {attempts(5, 5, 6, 4), "4 0"}, {attempts(5, 5, 6, 6), "5 0"}, {attempts(5, 7, 6, 6), "6 0"}, {attempts(0, 3, api.MaxMinute, 2), "2 0"},
	} {
		got, fault := Outcome(x.l)
		is(t, fmt.Sprint("Outcome ", x.l), show(got, fault), x.want)
	}
}

var daily = api.Calling{Most: 3, Gap: 60, Weekdays: []int{0, 1, 2, 3, 4, 5, 6}, Windows: []api.Window{{From: 0, To: 1440}}}

func TestAttemptFaults(t *testing.T) {
	many := slices.Repeat(attempts(1, 7), api.MaxAttempts+1)
	bad := slices.Clone(many)
	bad[0].Minute = -1
	for _, x := range []struct {
		l    []api.Attempt
		want api.Fault
	}{
		{many, api.ErrLarge}, {bad, api.ErrLarge}, {many[1:], api.OK},
		{attempts(-1, 7), api.ErrRange}, {attempts(api.MaxMinute+1, 7), api.ErrRange}, {attempts(math.MinInt, 7), api.ErrRange}, {attempts(math.MaxInt, 7), api.ErrRange},
		{attempts(1, 0), api.ErrKind}, {attempts(1, 8), api.ErrKind}, {attempts(1, -1), api.ErrKind}, {attempts(1, math.MaxInt), api.ErrKind}, {attempts(2, 7, 1, 7), api.ErrOrder}, {attempts(2, 7, 2, 7), api.OK},
		// The order within an attempt, and of attempts.
		{attempts(2, 7, -1, 0), api.ErrRange}, {attempts(2, 7, 1, 0), api.ErrKind}, {attempts(2, 0, 1, 7), api.ErrKind}, {attempts(2, 7, 1, 7, -1, 0), api.ErrOrder}, {attempts(2, 1, 1, 7), api.ErrOrder},
	} {
		got, fault := Outcome(x.l)
		due, is, fault2 := Due(daily, x.l, -1)
		if x.want == api.OK {
			if fault != api.OK || fault2 != api.ErrRange {
				t.Error("Outcome and Due", x.l, fault, fault2)
			}
			continue
		}
		refuses(t, fmt.Sprint("Outcome ", x.l), x.want, got, fault)
		refuses(t, fmt.Sprint("Due ", x.l), x.want, due, is, fault2)
	}
}

func TestCheckCalling(t *testing.T) {
	week, day := []int{0, 1, 2, 3, 4, 5, 6}, windows(0, 1440)
	nine := windows(0, 1, 1, 2, 2, 3, 3, 4, 4, 5, 5, 6, 6, 7, 7, 8, 8, 9)
	for _, x := range []struct {
		c    api.Calling
		want api.Fault
	}{
		{daily, api.OK}, {api.Calling{Most: 1, Gap: 0, Weekdays: []int{6}, Windows: windows(1439, 1440)}, api.OK}, {api.Calling{Most: 100, Gap: 1000000, Weekdays: week, Windows: nine[1:]}, api.OK},
		{api.Calling{Most: 0, Gap: 0, Weekdays: week, Windows: day}, api.ErrRange}, {api.Calling{Most: 101, Gap: 0, Weekdays: week, Windows: day}, api.ErrRange}, {api.Calling{Most: math.MinInt, Gap: 0, Weekdays: week, Windows: day}, api.ErrRange}, {api.Calling{Most: 1, Gap: -1, Weekdays: week, Windows: day}, api.ErrRange}, {api.Calling{Most: 1, Gap: 1000001, Weekdays: week, Windows: day}, api.ErrRange},
		{api.Calling{Most: 1, Windows: day}, api.ErrNone}, {api.Calling{Most: 1, Weekdays: week}, api.ErrNone}, {api.Calling{Most: 1}, api.ErrNone},
		{api.Calling{Most: 1, Weekdays: []int{-1}, Windows: day}, api.ErrRange}, {api.Calling{Most: 1, Weekdays: []int{7}, Windows: day}, api.ErrRange}, {api.Calling{Most: 1, Weekdays: []int{1, 1}, Windows: day}, api.ErrOrder}, {api.Calling{Most: 1, Weekdays: []int{2, 1}, Windows: day}, api.ErrOrder}, {api.Calling{Most: 1, Weekdays: []int{2, 1, 7}, Windows: day}, api.ErrOrder}, {api.Calling{Most: 1, Weekdays: []int{2, -1, 1}, Windows: day}, api.ErrRange},
		{api.Calling{Most: 1, Weekdays: week, Windows: nine}, api.ErrLarge}, {api.Calling{Most: 1, Weekdays: week, Windows: make([]api.Window, 9)}, api.ErrLarge},
		{api.Calling{Most: 1, Weekdays: week, Windows: windows(-1, 5)}, api.ErrRange}, {api.Calling{Most: 1, Weekdays: week, Windows: windows(5, 5)}, api.ErrRange}, {api.Calling{Most: 1, Weekdays: week, Windows: windows(6, 5)}, api.ErrRange}, {api.Calling{Most: 1, Weekdays: week, Windows: windows(5, 1441)}, api.ErrRange}, {api.Calling{Most: 1, Weekdays: week, Windows: windows(math.MinInt, math.MaxInt)}, api.ErrRange},
		{api.Calling{Most: 1, Weekdays: week, Windows: windows(5, 7, 6, 8)}, api.ErrOrder}, {api.Calling{Most: 1, Weekdays: week, Windows: windows(5, 7, 7, 8)}, api.OK}, {api.Calling{Most: 1, Weekdays: week, Windows: windows(5, 7, 1, 2)}, api.ErrOrder}, {api.Calling{Most: 1, Weekdays: week, Windows: windows(5, 7, 6, 6)}, api.ErrRange}, {api.Calling{Most: 1, Weekdays: week, Windows: windows(5, 7, 6, 8, 9, 9)}, api.ErrOrder},
		// Ranges, then what is empty, then the weekdays, then the windows.
		{api.Calling{Most: 0}, api.ErrRange}, {api.Calling{Most: 1, Weekdays: []int{9}}, api.ErrNone}, {api.Calling{Most: 1, Windows: nine}, api.ErrNone}, {api.Calling{Most: 1, Weekdays: []int{1, 0}, Windows: nine}, api.ErrOrder}, {api.Calling{Most: 1, Weekdays: []int{1, 0}, Windows: windows(5, 5)}, api.ErrOrder},
	} {
		if got := CheckCalling(x.c); got != x.want {
			t.Error("CheckCalling", x.c, got, x.want)
		}
		if x.want != api.OK {
			due, is, fault := Due(x.c, attempts(-1, 0), -1)
			refuses(t, fmt.Sprint("Due ", x.c), x.want, due, is, fault)
		}
	}
}

func TestDue(t *testing.T) {
	const day = 1440
	work := api.Calling{Most: 3, Gap: 60, Weekdays: []int{0, 1, 2, 3, 4}, Windows: windows(540, 720, 1080, 1200)}
	for _, x := range []struct {
		c      api.Calling
		l      []api.Attempt
		minute int
		want   string
	}{
		{work, nil, 0, "540 true 0"}, {work, nil, 540, "540 true 0"}, {work, nil, 719, "719 true 0"}, {work, attempts(540, 6), 0, "1080 true 0"}, {work, attempts(540, 6), 1100, "1100 true 0"},
		// The first window is next: day 0 is a Thursday, day 4 a Monday.
		{work, nil, 720, "1980 true 0"}, {work, nil, day + 720, "6300 true 0"}, {work, nil, 2 * day, "6300 true 0"}, {work, nil, 4*day - 1, "6300 true 0"},
		// Of windows with equally many attempts the first one.
		{work, attempts(540, 6, 1080, 6), 0, "1980 true 0"}, {work, attempts(1080, 6), 0, "1980 true 0"}, {work, attempts(1080, 6), 1081, "1980 true 0"},
		// Attempts outside of windows, at their ends too, are of none; those on other weekdays are of theirs.
		{work, attempts(720, 6), 0, "1980 true 0"}, {work, attempts(539, 6), 0, "599 true 0"}, {work, attempts(719, 6), 0, "1080 true 0"}, {work, attempts(1200, 6), 0, "1980 true 0"}, {work, attempts(2*day+600, 6), 0, "6840 true 0"}, {work, attempts(2*day+600, 6, 2*day+1100, 6), 0, "6300 true 0"},
		// The gap counts from the last attempt, and also one of 0 goes not behind it.
		{api.Calling{Most: 9, Gap: 100, Weekdays: []int{0, 1, 2, 3, 4, 5, 6}, Windows: windows(0, 1440)}, attempts(50, 6), 0, "150 true 0"}, {api.Calling{Most: 9, Gap: 100, Weekdays: []int{0, 1, 2, 3, 4, 5, 6}, Windows: windows(0, 1440)}, attempts(50, 6), 151, "151 true 0"}, {api.Calling{Most: 9, Gap: 0, Weekdays: []int{0, 1, 2, 3, 4, 5, 6}, Windows: windows(0, 1440)}, attempts(50, 6), 0, "50 true 0"}, {api.Calling{Most: 9, Gap: 2000, Weekdays: []int{6}, Windows: windows(10, 20)}, attempts(50, 7), 0, "4330 true 0"}, {api.Calling{Most: 9, Gap: 1000000, Weekdays: []int{0, 1, 2, 3, 4, 5, 6}, Windows: windows(0, 1440)}, attempts(50, 7), 0, "1000050 true 0"},
		// A single minute in a week.
		{api.Calling{Most: 1, Gap: 0, Weekdays: []int{3}, Windows: windows(7, 8)}, nil, 7, "7 true 0"}, {api.Calling{Most: 1, Gap: 0, Weekdays: []int{3}, Windows: windows(7, 8)}, nil, 8, "10087 true 0"}, {api.Calling{Most: 1, Gap: 0, Weekdays: []int{2}, Windows: windows(1439, 1440)}, nil, 0, "10079 true 0"},
		// No attempt is due.
		{work, attempts(1, 1), 0, "0 false 0"}, {work, attempts(1, 2), 0, "0 false 0"}, {work, attempts(1, 4), 0, "0 false 0"}, {work, attempts(1, 4, 2, 6), 0, "0 false 0"}, {work, attempts(1, 4, 2, 3), 0, "540 true 0"}, {work, attempts(1, 3), 0, "540 true 0"}, {work, attempts(1, 5), 0, "540 true 0"}, {work, attempts(1, 6, 2, 6, 3, 6), 0, "0 false 0"}, {work, attempts(1, 6, 2, 6, 3, 6, 4, 6), 0, "0 false 0"}, {work, attempts(1, 6, 2, 6), 0, "540 true 0"},
	} {
		got, is0, fault := Due(x.c, x.l, x.minute)
		is(t, fmt.Sprint("Due ", x.c, x.l, x.minute), show(got, is0, fault), x.want)
	}
}

// TestDueLast holds the errors of the minute, and what is due next to MaxMinute (S8).
func TestDueLast(t *testing.T) {
	const most = api.MaxMinute
	for _, minute := range []int{-1, most + 1, math.MinInt, math.MaxInt} {
		for _, l := range [][]api.Attempt{nil, attempts(1, 1)} {
			due, is0, fault := Due(daily, l, minute)
			refuses(t, fmt.Sprint("Due ", minute), api.ErrRange, due, is0, fault)
		}
	}
	at := most % 1440
	for _, x := range []struct {
		windows []api.Window
		l       []api.Attempt
		minute  int
		want    string
	}{
		{windows(0, 1440), nil, most, fmt.Sprint(most, " true 0")}, {windows(at, at+1), nil, most - 9, fmt.Sprint(most, " true 0")}, {windows(at+1, at+2), nil, most, "0 false 0"}, {windows(0, at), nil, most, "0 false 0"},
		{windows(0, 1440), attempts(most-60, 6), 0, fmt.Sprint(most, " true 0")}, {windows(0, 1440), attempts(most-59, 6), 0, "0 false 0"}, {windows(0, 1440), attempts(most, 6), most, "0 false 0"},
	} {
		c := daily
		c.Windows = x.windows
		got, is0, fault := Due(c, x.l, x.minute)
		is(t, fmt.Sprint("Due ", x), show(got, is0, fault), x.want)
	}
}

// dueByRule goes from minute to minute.
func dueByRule(c api.Calling, l []api.Attempt, minute int) (int, bool) {
	outcome, _ := Outcome(l)
	if outcome == api.OutComplete || outcome == api.OutIneligible || outcome == api.OutRefusal || len(l) >= c.Most {
		return 0, false
	}
	made := make([]int, len(c.Windows))
	for i, w := range c.Windows {
		for _, a := range l {
			if a.Minute%1440 >= w.From && a.Minute%1440 < w.To {
				made[i]++
			}
		}
	}
	w := c.Windows[slices.Index(made, slices.Min(made))]
	for ; ; minute++ {
		late := len(l) == 0 || minute-l[len(l)-1].Minute >= c.Gap
		if late && slices.Contains(c.Weekdays, (minute/1440+3)%7) && minute%1440 >= w.From && minute%1440 < w.To {
			return minute, true
		}
	}
}

// TestDueByChance holds Due against a walk from minute to minute.
func TestDueByChance(t *testing.T) {
	r := rand.New(rand.NewSource(7))
	for range 500 {
		c := api.Calling{Most: 1 + r.Intn(5), Gap: r.Intn(2) * r.Intn(3000)}
		for weekday := range 7 {
			if r.Intn(3) == 0 {
				c.Weekdays = append(c.Weekdays, weekday)
			}
		}
		for from := r.Intn(900); from < 1440 && len(c.Windows) < 4; from += r.Intn(300) {
			to := min(1440, from+1+r.Intn(300))
			c.Windows = append(c.Windows, api.Window{From: from, To: to})
			from = to
		}
		if len(c.Weekdays) == 0 {
			c.Weekdays = []int{r.Intn(7)}
		}
		var l []api.Attempt
		minute := r.Intn(20000)
		for range r.Intn(6) {
			minute += r.Intn(2000)
			l = append(l, api.Attempt{Minute: minute, Outcome: 3 + r.Intn(5)})
		}
		from := r.Intn(40000)
		want, wantIs := dueByRule(c, l, from)
		if got, is, fault := Due(c, l, from); got != want || is != wantIs || fault != api.OK {
			t.Fatal("Due", c, l, from, got, is, fault, want, wantIs)
		}
	}
}
