package date

import "concord/api"

const (
	maxYear      = 9999
	monthsOfYear = 12
	daysOfWeek   = 7

	daysOf400Years = 400*365 + 97
)

// lengths are the numbers of days of the months, January first, in a year that has no 29 February.
var lengths = [monthsOfYear]int{31, 28, 31, 30, 31, 30, 31, 31, 30, 31, 30, 31}

// isNumber reports whether n is the number of a date.
func isNumber(n int) bool {
	return 0 <= n && n <= api.MaxDay
}

// hasLeapDay reports whether a year has a 29 February.
func hasLeapDay(year int) bool {
	return year%4 == 0 && (year%100 != 0 || year%400 == 0)
}

// lengthOfMonth returns how many days a month from 1 to 12 has.
func lengthOfMonth(year, month int) int {
	if month == 2 && hasLeapDay(year) {
		return 29
	}
	return lengths[month-1]
}

// daysBeforeYear returns how many dates are before a year, which is at least 1.
func daysBeforeYear(year int) int {
	years := year - 1
	return 365*years + years/4 - years/100 + years/400
}

// yearOf returns the year of the date with the number n.
func yearOf(n int) int {
	// By the mean length of all years, a year is never too late, and at most one too early: the first day of a year is at most 1.5 days before, and less than one day after the place that the mean gives it.
	year := 400*n/daysOf400Years + 1
	if n >= daysBeforeYear(year+1) {
		year++
	}
	return year
}
