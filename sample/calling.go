package sample

import (
	"slices"

	"canvass/api"
)

const (
	minutesOfDay = 1440
	daysOfWeek   = 7
)

// Outcome returns the outcome of a case (S8).
func Outcome(l []api.Attempt) (int, api.Fault) {
	if len(l) > api.MaxAttempts {
		return 0, api.ErrLarge
	}
	// The numbers of the outcomes are in the order in which one goes ahead of another.
	outcome, last := api.OutUnknown, 0
	for _, a := range l {
		switch {
		case !isMinute(a.Minute):
			return 0, api.ErrRange
		case !isOutcome(a.Outcome):
			return 0, api.ErrKind
		case a.Minute < last:
			return 0, api.ErrOrder
		}
		outcome, last = min(outcome, a.Outcome), a.Minute
	}
	return outcome, api.OK
}

func isMinute(minute int) bool { return minute >= 0 && minute <= api.MaxMinute }

func isOutcome(outcome int) bool { return outcome >= api.OutComplete && outcome <= api.OutUnknown }

// CheckCalling validates when attempts can be made (S8).
func CheckCalling(c api.Calling) api.Fault {
	if c.Most < 1 || c.Most > api.MaxAttempts || c.Gap < 0 || c.Gap > api.MaxGap {
		return api.ErrRange
	}
	if len(c.Weekdays) == 0 || len(c.Windows) == 0 {
		return api.ErrNone
	}
	if fault := checkWeekdays(c.Weekdays); fault != api.OK {
		return fault
	}
	return checkWindows(c.Windows)
}

func checkWeekdays(weekdays []int) api.Fault {
	for i, weekday := range weekdays {
		if weekday < 0 || weekday >= daysOfWeek {
			return api.ErrRange
		}
		if i > 0 && weekday <= weekdays[i-1] {
			return api.ErrOrder
		}
	}
	return api.OK
}

func checkWindows(windows []api.Window) api.Fault {
	if len(windows) > api.MaxWindows {
		return api.ErrLarge
	}
	last := 0
	for _, w := range windows {
		if w.From < 0 || w.From >= w.To || w.To > minutesOfDay {
			return api.ErrRange
		}
		if w.From < last {
			return api.ErrOrder
		}
		last = w.To
	}
	return api.OK
}

// Due returns when the next attempt can be made, and whether there is one (S8).
func Due(c api.Calling, l []api.Attempt, minute int) (int, bool, api.Fault) {
	if fault := CheckCalling(c); fault != api.OK {
		return 0, false, fault
	}
	outcome, fault := Outcome(l)
	if fault != api.OK {
		return 0, false, fault
	}
	if !isMinute(minute) {
		return 0, false, api.ErrRange
	}
	if isFinal(outcome) || len(l) >= c.Most {
		return 0, false, api.OK
	}
	if len(l) > 0 {
		minute = max(minute, l[len(l)-1].Minute+c.Gap)
	}
	due := firstIn(nextWindow(c.Windows, l), c.Weekdays, minute)
	if !isMinute(due) {
		return 0, false, api.OK
	}
	return due, true, api.OK
}

func isFinal(outcome int) bool {
	return outcome == api.OutComplete || outcome == api.OutIneligible || outcome == api.OutRefusal
}

// nextWindow returns the window in which the fewest attempts were made.
func nextWindow(windows []api.Window, l []api.Attempt) api.Window {
	return slices.MinFunc(windows, func(a, b api.Window) int { return attemptsIn(a, l) - attemptsIn(b, l) })
}

func attemptsIn(w api.Window, l []api.Attempt) int {
	n := 0
	for _, a := range l {
		if at := a.Minute % minutesOfDay; at >= w.From && at < w.To {
			n++
		}
	}
	return n
}

// firstIn returns the first minute, from the given one on, that is in a window on one of some weekdays.
func firstIn(w api.Window, weekdays []int, minute int) int {
	day := minute / minutesOfDay
	if minute >= day*minutesOfDay+w.To {
		day++
	}
	for !slices.Contains(weekdays, weekdayOf(day)) {
		day++
	}
	return max(minute, day*minutesOfDay+w.From)
}

// weekdayOf is value.Weekday for all days of minutes, which go far beyond MaxDay.
func weekdayOf(day int) int { return (day + 3) % daysOfWeek }
