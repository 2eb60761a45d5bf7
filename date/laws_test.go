package date_test

import (
	"testing"

	"concord/api"
	"concord/date"
)

// P3.5: the consequences, without another implementation beside the package.

func TestNumberAndCivilUndoEachOther(t *testing.T) {
	var before civil
	for n := range api.MaxDay + 1 {
		year, month, day, ok := date.Civil(n)
		if back, valid := date.Number(year, month, day); back != n || !ok || !valid {
			t.Fatalf("Number of Civil(%d) = %d, %t", n, back, valid)
		}
		d := civil{year, month, day}
		if n > 0 && !isNext(before, d) {
			t.Fatalf("%v is not the date after %v", d, before)
		}
		before = d
	}
}

// isNext reports whether b is the date after a: one day later, or the first day of a month after the last one.
func isNext(a, b civil) bool {
	if b.day > 1 {
		return b == civil{a.year, a.month, a.day + 1}
	}
	if date.Valid(a.year, a.month, a.day+1) {
		return false
	}
	return b == civil{a.year, a.month + 1, 1} || a.month == 12 && b == civil{a.year + 1, 1, 1}
}

func TestWeekdaysRepeat(t *testing.T) {
	for n := range api.MaxDay + 1 {
		later, ok := date.Add(n, 7)
		if ok != (n <= api.MaxDay-7) {
			t.Fatalf("Add(%d, 7) is %t", n, ok)
		}
		today, _ := date.Weekday(n)
		if again, _ := date.Weekday(later); ok && again != today {
			t.Fatalf("the weekdays of %d and %d are %d and %d", n, later, today, again)
		}
	}
}

func TestMonthsCanBeUndone(t *testing.T) {
	s := &samples{state: 6}
	for range 200000 {
		n, months := s.number(), s.below(24001)-12000
		_, _, day, _ := date.Civil(n)
		later, ok := date.Months(n, months)
		if !ok {
			continue
		}
		back, ok := date.Months(later, -months)
		if !ok || day <= 28 && back != n || back > n {
			t.Fatalf("Months of %d by %d, and back, is %d, %t", n, months, back, ok)
		}
	}
}

func TestTwelveMonthsAreAYear(t *testing.T) {
	s := &samples{state: 7}
	for range 200000 {
		n, years := s.number(), s.below(2001)-1000
		year, month, day, _ := date.Civil(n)
		later, ok := date.Months(n, 12*years)
		if ok != (year+years >= 1 && year+years <= 9999) {
			t.Fatalf("Months of %d by %d years is %t", n, years, ok)
		}
		if !ok {
			continue
		}
		if month == 2 && day == 29 && !date.Valid(year+years, 2, 29) {
			day = 28
		}
		if want, _ := date.Number(year+years, month, day); later != want {
			t.Fatalf("Months of %d by %d years is %d, not %d", n, years, later, want)
		}
	}
}

func TestReadUndoesFormat(t *testing.T) {
	s := &samples{state: 8}
	returned := 0
	for range 100000 {
		layout, n := anyLayout(s), s.number()
		text, ok := date.Format(layout, n)
		if !ok {
			continue
		}
		returned++
		if back, read := date.Read(layout, text); back != n || !read {
			t.Fatalf("Read(%q) of Format(%d), which is %q, is %d, %t", layout, n, text, back, read)
		}
	}
	if returned < 30000 {
		t.Errorf("Format was true for %d layouts only", returned)
	}
}

// TestLayoutOfText also compares Text and Parse, and Format and Read, for what is no date.
func TestLayoutOfText(t *testing.T) {
	const layout = "YYYY-MM-DD"
	s := &samples{state: 9}
	for range 100000 {
		n := s.number() + s.below(3)*1000 - 1000
		text, ok := date.Format(layout, n)
		if date.Text(n) != text || ok != (text != "") {
			t.Fatalf("Text(%d) = %q, not %q", n, date.Text(n), text)
		}
		changed := []byte(text)
		if ok {
			changed[s.below(len(changed))] = "0123456789-"[s.below(11)]
		}
		number, read := date.Read(layout, string(changed))
		if parsed, ok := date.Parse(string(changed)); parsed != number || ok != read {
			t.Fatalf("Parse(%q) = %d, %t, not %d, %t", changed, parsed, ok, number, read)
		}
	}
}
