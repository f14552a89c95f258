package value

import "canvass/api"

var lengths = [...]int{31, 28, 31, 30, 31, 30, 31, 31, 30, 31, 30, 31}

// Years of MinDay and MaxDay.
const (
	firstYear = 1900
	lastYear  = 2199
)

// Date returns the Day of a date, or Missing (V4).
func Date(year, month, day int) api.Value {
	if year < firstYear || year > lastYear || month < 1 || month > 12 || day < 1 || day > lengthOf(year, month) {
		return api.Value{}
	}
	days := daysAhead(year) + day - 1
	for m := 1; m < month; m++ {
		days += lengthOf(year, m)
	}
	return api.Value{Kind: api.Day, N: days}
}

func isLeap(year int) bool { return year%4 == 0 && year%100 != 0 || year%400 == 0 }

func lengthOf(year, month int) int {
	if month == 2 && isLeap(year) {
		return 29
	}
	return lengths[month-1]
}

// daysAhead returns the day with which a year begins.
func daysAhead(year int) int {
	return 365*(year-1970) + leapsAhead(year) - leapsAhead(1970)
}

// leapsAhead counts the leap years from the year 1 on that are over when a year begins.
func leapsAhead(year int) int {
	return (year-1)/4 - (year-1)/100 + (year-1)/400
}

// Civil returns year, month and day of the month of a day (V4).
func Civil(day int) (int, int, int, api.Fault) {
	if !isDay(day) {
		return 0, 0, 0, api.ErrRange
	}
	year, month, dayOfMonth := civil(day)
	return year, month, dayOfMonth, api.OK
}

func isDay(day int) bool { return day >= api.MinDay && day <= api.MaxDay }

func civil(day int) (int, int, int) {
	year := firstYear + (day-api.MinDay)/366
	for daysAhead(year+1) <= day {
		year++
	}
	rest, month := day-daysAhead(year), 1
	for rest >= lengthOf(year, month) {
		rest -= lengthOf(year, month)
		month++
	}
	return year, month, rest + 1
}

// Weekday returns the day of the week, 0 for Monday (V4).
func Weekday(day int) (int, api.Fault) {
	if !isDay(day) {
		return 0, api.ErrRange
	}
	// MinDay is a Monday.
	return (day - api.MinDay) % 7, api.OK
}

// Months returns the Day that is so many months later, or Missing (V4).
func Months(day, months int) api.Value {
	const all = 12 * (lastYear - firstYear + 1)
	if !isDay(day) || months < -all || months > all {
		return api.Value{}
	}
	year, month, dayOfMonth := civil(day)
	// The years stay positive, so that division rounds down.
	months += 12*year + month - 1
	year, month = months/12, months%12+1
	return Date(year, month, min(dayOfMonth, lengthOf(year, month)))
}
