package date_test

import (
	"math"
	"testing"

	"concord/api"
	"concord/date"
)

// P3.2: Weekday, Add, Months.

func TestAllWeekdays(t *testing.T) {
	want := 1
	for n := range allDates() {
		if got, ok := date.Weekday(n); got != want || !ok {
			t.Fatalf("Weekday(%d) = %d, %t, not %d", n, got, ok, want)
		}
		if want++; want == 8 {
			want = 1
		}
	}
}

func TestExamplesOfWeekdays(t *testing.T) {
	for d, want := range map[civil]int{{1, 1, 1}: 1, {1582, 10, 15}: 5, {1969, 7, 20}: 7, {1970, 1, 1}: 4, {2000, 1, 1}: 6, {2024, 2, 29}: 4, {9999, 12, 31}: 5} {
		n, _ := date.Number(d.year, d.month, d.day)
		if got, ok := date.Weekday(n); got != want || !ok {
			t.Errorf("Weekday of %v = %d, %t, not %d", d, got, ok, want)
		}
	}
}

// checkNone reports a number, or true, that stands for no result.
func checkNone(t *testing.T, call string, n int, ok bool, args ...int) {
	t.Helper()
	if n != 0 || ok {
		t.Errorf("%s of %v = %d, %t", call, args, n, ok)
	}
}

func TestWeekdaysOfOtherNumbers(t *testing.T) {
	for _, n := range notNumbers() {
		w, ok := date.Weekday(n)
		checkNone(t, "Weekday", w, ok, n)
	}
}

func TestAdd(t *testing.T) {
	for _, c := range [][3]int{{0, 0, 0}, {0, 1, 1}, {1, -1, 0}, {0, api.MaxDay, api.MaxDay}, {api.MaxDay, -api.MaxDay, 0}, {api.MaxDay, 0, api.MaxDay}, {730178, 366, 730544}, {730178, -59, 730119}} {
		if got, ok := date.Add(c[0], c[1]); got != c[2] || !ok {
			t.Errorf("Add(%d, %d) = %d, %t", c[0], c[1], got, ok)
		}
	}
}

func TestAddToTheEnds(t *testing.T) {
	s := &samples{state: 1}
	for range 20000 {
		n, to := s.number(), s.number()
		if got, ok := date.Add(n, to-n); got != to || !ok {
			t.Fatalf("Add(%d, %d) = %d, %t", n, to-n, got, ok)
		}
		for end, days := range map[int]int{0: -n, api.MaxDay: api.MaxDay - n} {
			if got, ok := date.Add(n, days); got != end || !ok {
				t.Fatalf("Add(%d, %d) = %d, %t", n, days, got, ok)
			}
		}
		for _, days := range []int{-n - 1, api.MaxDay - n + 1, -n - 1 - s.number(), api.MaxDay - n + 1 + s.number()} {
			got, ok := date.Add(n, days)
			checkNone(t, "Add", got, ok, n, days)
		}
	}
}

// TestAddOfOtherNumbers has sums that wrap around, and sums that are numbers although n is none.
func TestAddOfOtherNumbers(t *testing.T) {
	for _, n := range []int{0, 1, 12, 730178, api.MaxDay - 1, api.MaxDay} {
		for _, days := range notNumbers() {
			if days < -n || days > api.MaxDay-n {
				got, ok := date.Add(n, days)
				checkNone(t, "Add", got, ok, n, days)
			}
		}
	}
	for _, n := range notNumbers() {
		for _, days := range append(extremeInts(), 0, 1, -1, -n, 5-n, api.MaxDay-n) {
			got, ok := date.Add(n, days)
			checkNone(t, "Add", got, ok, n, days)
		}
	}
}

func TestExamplesOfMonths(t *testing.T) {
	for _, c := range []struct {
		from   civil
		months int
		to     civil
	}{
		{civil{2024, 1, 31}, 0, civil{2024, 1, 31}}, {civil{2024, 1, 31}, 1, civil{2024, 2, 29}}, {civil{2024, 1, 31}, 13, civil{2025, 2, 28}}, {civil{2024, 1, 31}, -1, civil{2023, 12, 31}},
		{civil{2024, 1, 31}, 3, civil{2024, 4, 30}}, {civil{2024, 2, 29}, 12, civil{2025, 2, 28}}, {civil{2024, 2, 29}, 48, civil{2028, 2, 29}}, {civil{1896, 2, 29}, 48, civil{1900, 2, 28}}, {civil{2024, 2, 29}, -12, civil{2023, 2, 28}},
		{civil{2023, 12, 15}, 1, civil{2024, 1, 15}}, {civil{2024, 1, 15}, -1, civil{2023, 12, 15}}, {civil{2024, 1, 15}, -13, civil{2022, 12, 15}}, {civil{2024, 5, 31}, -3, civil{2024, 2, 29}}, {civil{2024, 12, 31}, 12, civil{2025, 12, 31}},
		{civil{1, 1, 31}, 119987, civil{9999, 12, 31}}, {civil{9999, 12, 31}, -119987, civil{1, 1, 31}}, {civil{9999, 12, 31}, -119986, civil{1, 2, 28}}, {civil{1, 3, 31}, -2, civil{1, 1, 31}},
	} {
		n, _ := date.Number(c.from.year, c.from.month, c.from.day)
		want, _ := date.Number(c.to.year, c.to.month, c.to.day)
		if got, ok := date.Months(n, c.months); got != want || !ok {
			t.Errorf("Months of %v by %d = %d, %t, not %v", c.from, c.months, got, ok, c.to)
		}
	}
}

// checkMonths compares the result with that of the calendar.
func checkMonths(t *testing.T, c *calendar, d civil, months int) {
	t.Helper()
	n, _ := c.number(d)
	want, wanted := c.monthsLater(d, months)
	if got, ok := date.Months(n, months); got != want || ok != wanted {
		t.Fatalf("Months of %v by %d = %d, %t, not %d, %t", d, months, got, ok, want, wanted)
	}
}

func TestMonthsOfAllDates(t *testing.T) {
	c := newCalendar()
	s := &samples{state: 2}
	for _, d := range allDates() {
		checkMonths(t, c, d, s.below(51)-25)
	}
}

func TestMonthsToTheEnds(t *testing.T) {
	c := newCalendar()
	s := &samples{state: 3}
	for range 20000 {
		year, month, day, _ := date.Civil(s.number())
		d := civil{year, month, day}
		before := 12*(year-1) + month - 1
		for _, months := range []int{0, s.below(119988) - before, -before, -before - 1, -before - 2, 119987 - before, 119988 - before, 119989 - before} {
			checkMonths(t, c, d, months)
		}
	}
}

func TestMonthsByExtremeNumbers(t *testing.T) {
	c := newCalendar()
	for _, d := range []civil{{1, 1, 1}, {1, 12, 31}, {4, 2, 29}, {2024, 1, 31}, {9999, 1, 1}, {9999, 12, 31}} {
		for _, months := range append(extremeInts(), math.MaxInt/2, math.MinInt/2) {
			checkMonths(t, c, d, months)
		}
	}
}

func TestMonthsOfOtherNumbers(t *testing.T) {
	for _, n := range notNumbers() {
		for _, months := range append(extremeInts(), 0, 1, -1, 12, -12) {
			got, ok := date.Months(n, months)
			checkNone(t, "Months", got, ok, n, months)
		}
	}
}
