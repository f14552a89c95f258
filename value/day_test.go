package value

import (
	"testing"
	"time"

	"canvass/api"
)

// TestAllDays holds all days against package time.
func TestAllDays(t *testing.T) {
	for n := api.MinDay; n <= api.MaxDay; n++ {
		date := time.Unix(int64(n)*86400, 0).UTC()
		y, m, d, fault := Civil(n)
		if y != date.Year() || m != int(date.Month()) || d != date.Day() || fault != api.OK {
			t.Fatalf("Civil(%d) is %d %d %d, %d", n, y, m, d, fault)
		}
		if got := Date(y, m, d); !equal(got, day(n)) {
			t.Fatalf("Date(%d, %d, %d) is %v", y, m, d, got)
		}
		if got, fault := Weekday(n); got != (int(date.Weekday())+6)%7 || fault != api.OK {
			t.Fatalf("Weekday(%d) is %d, %d", n, got, fault)
		}
	}
}

func TestDateOfOthers(t *testing.T) {
	const huge = 1<<63 - 1
	for _, x := range [][3]int{
		{2023, 0, 1}, {2023, 13, 1}, {2023, -1, 1}, {2023, 1, 0}, {2023, 1, 32}, {2023, 4, 31}, {2023, 2, 29}, {1900, 2, 29}, {2100, 2, 29}, {2000, 2, 30}, {2023, 1, -1},
		{1899, 12, 31}, {2200, 1, 1}, {0, 1, 1}, {-4, 2, 29}, {huge, 1, 1}, {-huge - 1, 1, 1}, {2023, huge, 1}, {2023, 1, huge}, {2023, -huge - 1, 1}, {2023, 1, -huge - 1},
	} {
		if got := Date(x[0], x[1], x[2]); !equal(got, api.Value{}) {
			t.Errorf("Date%v is %v", x, got)
		}
	}
	if got := Date(2000, 2, 29); !equal(got, day(11016)) {
		t.Error("Date of a leap day", got)
	}
}

func TestDaysOutOfRange(t *testing.T) {
	for _, n := range []int{api.MinDay - 1, api.MaxDay + 1, -1 << 63, 1<<63 - 1} {
		if y, m, d, fault := Civil(n); y != 0 || m != 0 || d != 0 || fault != api.ErrRange {
			t.Errorf("Civil(%d) is %d %d %d, %d", n, y, m, d, fault)
		}
		if got, fault := Weekday(n); got != 0 || fault != api.ErrRange {
			t.Errorf("Weekday(%d) is %d, %d", n, got, fault)
		}
		if got := Months(n, 0); !equal(got, api.Value{}) {
			t.Errorf("Months(%d, 0) is %v", n, got)
		}
	}
}

func TestMonths(t *testing.T) {
	date := func(y, m, d int) int { return Date(y, m, d).N }
	for _, x := range []struct{ from, months, want int }{
		{date(1970, 1, 31), 0, date(1970, 1, 31)}, {date(1970, 1, 31), 1, date(1970, 2, 28)}, {date(1972, 1, 31), 1, date(1972, 2, 29)}, {date(2000, 1, 31), 1, date(2000, 2, 29)}, {date(1970, 1, 31), 3, date(1970, 4, 30)},
		{date(1970, 1, 31), 11, date(1970, 12, 31)}, {date(1970, 1, 31), 12, date(1971, 1, 31)}, {date(1970, 1, 31), 13, date(1971, 2, 28)},
		{date(1970, 3, 31), -1, date(1970, 2, 28)}, {date(1970, 1, 1), -1, date(1969, 12, 1)}, {date(1970, 5, 31), -6, date(1969, 11, 30)}, {date(2000, 2, 29), -12, date(1999, 2, 28)}, {date(2000, 2, 29), 48, date(2004, 2, 29)}, {date(2000, 2, 29), 1200, date(2100, 2, 28)},
		{api.MinDay, 12*299 + 11, date(2199, 12, 1)}, {api.MaxDay, -12*299 - 11, date(1900, 1, 31)},
	} {
		if got := Months(x.from, x.months); !equal(got, day(x.want)) {
			t.Errorf("Months(%d, %d) is %v, not %d", x.from, x.months, got, x.want)
		}
	}
	for _, x := range [][2]int{{api.MinDay, -1}, {api.MaxDay, 1}, {0, 12 * 230}, {0, -12*70 - 1}, {0, 3601}, {0, -3601}, {0, 1<<63 - 1}, {0, -1 << 63}, {api.MaxDay, -3600}} {
		if got := Months(x[0], x[1]); !equal(got, api.Value{}) {
			t.Errorf("Months(%d, %d) is %v", x[0], x[1], got)
		}
	}
}
