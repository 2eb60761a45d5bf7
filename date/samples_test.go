package date_test

import (
	"iter"
	"math"

	"concord/api"
)

// The tests of this package call exported functions only. Dates are counted one by one, as the chapter defines their numbers; layouts are compared with regular expressions. Samples come from a generator with a fixed start, so that each run tests the same ones.

// samples generates numbers.
type samples struct{ state uint64 }

// below returns a number from 0 to n - 1 (splitmix64).
func (s *samples) below(n int) int {
	s.state += 0x9e3779b97f4a7c15
	z := s.state
	z = (z ^ z>>30) * 0xbf58476d1ce4e5b9
	z = (z ^ z>>27) * 0x94d049bb133111eb
	return int((z ^ z>>31) % uint64(n))
}

// number returns the number of a date.
func (s *samples) number() int { return s.below(api.MaxDay + 1) }

// element returns an element of l.
func element[T any](s *samples, l []T) T { return l[s.below(len(l))] }

// civil is a date.
type civil struct{ year, month, day int }

// lastDay returns the last day of a month from 1 to 12.
func lastDay(year, month int) int {
	switch month {
	case 4, 6, 9, 11:
		return 30
	case 2:
		if year%400 == 0 || year%4 == 0 && year%100 != 0 {
			return 29
		}
		return 28
	}
	return 31
}

// isDate reports whether c is a date.
func isDate(c civil) bool {
	return c.year >= 1 && c.year <= 9999 && c.month >= 1 && c.month <= 12 && c.day >= 1 && c.day <= lastDay(c.year, c.month)
}

// allDates returns all dates with their numbers, by counting.
func allDates() iter.Seq2[int, civil] {
	return func(yield func(int, civil) bool) {
		n := 0
		for year := 1; year <= 9999; year++ {
			for month := 1; month <= 12; month++ {
				for day := 1; day <= lastDay(year, month); day++ {
					if !yield(n, civil{year, month, day}) {
						return
					}
					n++
				}
			}
		}
	}
}

// calendar is the first day of each month, and the number of it.
type calendar struct {
	months []civil
	first  []int
}

// newCalendar counts all dates.
func newCalendar() *calendar {
	var c calendar
	for n, d := range allDates() {
		if d.day == 1 {
			c.months, c.first = append(c.months, d), append(c.first, n)
		}
	}
	return &c
}

// number returns the number of a date, or false.
func (c *calendar) number(d civil) (int, bool) {
	if !isDate(d) {
		return 0, false
	}
	return c.first[12*(d.year-1)+d.month-1] + d.day - 1, true
}

// monthsLater returns what Months should return for a date with the number n.
func (c *calendar) monthsLater(d civil, months int) (int, bool) {
	at := 12*(d.year-1) + d.month - 1
	if months < -at || months > len(c.months)-1-at {
		return 0, false
	}
	to := c.months[at+months]
	return c.first[at+months] + min(d.day, lastDay(to.year, to.month)) - 1, true
}

// extremeInts returns ints for which sums and products wrap around, and others far from all dates.
func extremeInts() []int {
	l := []int{math.MaxInt, math.MinInt, api.MaxDay, api.MaxDay + 1, api.MaxDay + 2, -api.MaxDay, 119987, 119988, 9999, 10000}
	for _, shift := range []int{31, 32, 33, 59, 60, 61, 62} {
		l = append(l, 1<<shift, -1<<shift)
	}
	// Multiples of 12, 7, and of the days of 400 years, wrapped around.
	for _, factor := range []int{7, 12, 365, 146097} {
		l = append(l, math.MaxInt/factor, math.MinInt/factor)
	}
	var near []int
	for _, n := range l {
		for by := -2; by <= 2; by++ {
			near = append(near, n+by)
		}
	}
	return near
}

// notNumbers returns ints that are no number of a date.
func notNumbers() []int {
	l := []int{-1, -2, -365, -146097}
	for _, n := range extremeInts() {
		if n < 0 || n > api.MaxDay {
			l = append(l, n)
		}
	}
	return l
}
