package date_test

import (
	"testing"

	"concord/api"
	"concord/date"
)

// P3.1: Valid, Number, Civil.

func TestAllDates(t *testing.T) {
	last := -1
	for n, d := range allDates() {
		if !date.Valid(d.year, d.month, d.day) {
			t.Fatalf("Valid(%v) is false", d)
		}
		if got, ok := date.Number(d.year, d.month, d.day); got != n || !ok {
			t.Fatalf("Number(%v) = %d, %t, not %d", d, got, ok, n)
		}
		if year, month, day, ok := date.Civil(n); (civil{year, month, day}) != d || !ok {
			t.Fatalf("Civil(%d) = %d, %d, %d, %t, not %v", n, year, month, day, ok, d)
		}
		last = n
	}
	if last != api.MaxDay {
		t.Errorf("the last date has the number %d", last)
	}
}

func TestExamplesOfNumbers(t *testing.T) {
	for d, want := range map[civil]int{
		{1, 1, 1}: 0, {1, 1, 31}: 30, {1, 2, 1}: 31, {1, 2, 28}: 58, {1, 3, 1}: 59, {1, 12, 31}: 364, {2, 1, 1}: 365, {4, 2, 29}: 1154, {4, 12, 31}: 1460, {5, 1, 1}: 1461,
		{100, 12, 31}: 36523, {101, 1, 1}: 36524, {400, 12, 31}: 146096, {401, 1, 1}: 146097, {1582, 10, 15}: 577735, {1970, 1, 1}: 719162, {2000, 2, 29}: 730178, {9999, 12, 31}: 3652058,
	} {
		if n, ok := date.Number(d.year, d.month, d.day); n != want || !ok {
			t.Errorf("Number(%v) = %d, %t, not %d", d, n, ok, want)
		}
		if year, month, day, ok := date.Civil(want); (civil{year, month, day}) != d || !ok {
			t.Errorf("Civil(%d) = %d, %d, %d, %t", want, year, month, day, ok)
		}
	}
}

// checkNoDate reports a call that takes d for a date.
func checkNoDate(t *testing.T, d civil) {
	t.Helper()
	if date.Valid(d.year, d.month, d.day) {
		t.Errorf("Valid(%v) is true", d)
	}
	if n, ok := date.Number(d.year, d.month, d.day); n != 0 || ok {
		t.Errorf("Number(%v) = %d, %t", d, n, ok)
	}
}

func TestDaysThatAreNone(t *testing.T) {
	for year := 1; year <= 9999; year++ {
		for month := 1; month <= 12; month++ {
			for _, day := range []int{0, -1, lastDay(year, month) + 1, 32} {
				checkNoDate(t, civil{year, month, day})
			}
		}
		for _, month := range []int{0, -1, 13, 14} {
			checkNoDate(t, civil{year, month, 1})
		}
	}
}

func TestYearsThatAreNone(t *testing.T) {
	for _, year := range []int{0, -1, -4, -400, -9999, 10000, 10001, 10004, 12000} {
		for month := -1; month <= 14; month++ {
			for day := -1; day <= 33; day++ {
				checkNoDate(t, civil{year, month, day})
			}
		}
	}
}

// TestLeapDays names years with and without 29 February.
func TestLeapDays(t *testing.T) {
	for _, year := range []int{4, 8, 96, 104, 400, 800, 1600, 1996, 2000, 2004, 2024, 9600, 9996} {
		if !date.Valid(year, 2, 29) || date.Valid(year, 2, 30) {
			t.Errorf("February of %d", year)
		}
	}
	for _, year := range []int{1, 2, 3, 5, 100, 200, 300, 500, 1700, 1900, 2023, 2100, 9900, 9998, 9999} {
		if !date.Valid(year, 2, 28) || date.Valid(year, 2, 29) {
			t.Errorf("February of %d", year)
		}
	}
}

func TestExtremeDates(t *testing.T) {
	for _, n := range extremeInts() {
		for _, d := range []civil{{n, 1, 1}, {n, 2, 29}, {2024, n, 1}, {2024, n, 29}, {2024, 2, n}, {2023, 12, n}, {n, n, n}} {
			if !isDate(d) {
				checkNoDate(t, d)
			}
		}
	}
}

func TestNumbersWithoutDate(t *testing.T) {
	for _, n := range notNumbers() {
		if year, month, day, ok := date.Civil(n); year != 0 || month != 0 || day != 0 || ok {
			t.Errorf("Civil(%d) = %d, %d, %d, %t", n, year, month, day, ok)
		}
	}
}
