package date_test

import (
	"fmt"
	"regexp"
	"strconv"
	"testing"

	"concord/date"
)

// P3.3: Text, Parse.

func TestExamplesOfText(t *testing.T) {
	for n, want := range map[int]string{0: "0001-01-01", 364: "0001-12-31", 3652: "0011-01-01", 36159: "0100-01-01", 365000: "1000-05-04", 730178: "2000-02-29", 3652058: "9999-12-31"} {
		if got := date.Text(n); got != want {
			t.Errorf("Text(%d) = %q, not %q", n, got, want)
		}
		if got, ok := date.Parse(want); got != n || !ok {
			t.Errorf("Parse(%q) = %d, %t", want, got, ok)
		}
	}
}

// TestTextOfManyDates has the first day of each month, and all days of each sixteenth year.
func TestTextOfManyDates(t *testing.T) {
	for n, d := range allDates() {
		if d.day > 1 && d.year%16 > 0 {
			continue
		}
		want := fmt.Sprintf("%04d-%02d-%02d", d.year, d.month, d.day)
		if got := date.Text(n); got != want {
			t.Fatalf("Text(%d) = %q, not %q", n, got, want)
		}
		if got, ok := date.Parse(want); got != n || !ok {
			t.Fatalf("Parse(%q) = %d, %t, not %d", want, got, ok, n)
		}
	}
}

func TestTextOfOtherNumbers(t *testing.T) {
	for _, n := range notNumbers() {
		if got := date.Text(n); got != "" {
			t.Errorf("Text(%d) = %q", n, got)
		}
	}
}

// dateOf returns what should be parsed of s, without the help of the package.
func dateOf(c *calendar, s string) (int, bool) {
	m := regexp.MustCompile(`\A([0-9]{4})-([0-9]{2})-([0-9]{2})\z`).FindStringSubmatch(s)
	if m == nil {
		return 0, false
	}
	year, _ := strconv.Atoi(m[1])
	month, _ := strconv.Atoi(m[2])
	day, _ := strconv.Atoi(m[3])
	return c.number(civil{year, month, day})
}

func TestParseOfTextsThatAreNone(t *testing.T) {
	for _, s := range []string{
		"", " ", "-", "--", "2024", "2024-01", "2024-01-", "-01-31", "2024--31", "2024-01-31-", "2024-01-31-01", "-2024-01-31", // parts
		"2024-1-31", "2024-01-1", "2024-1-1", "24-01-31", "024-01-31", "02024-01-31", "2024-001-31", "2024-01-031", "20240-1-31", "2024-010-1", // numbers of digits
		"2024-01-32", "2024-04-31", "2023-02-29", "1900-02-29", "2024-02-30", "2024-13-01", "2024-00-01", "2024-01-00", "0000-01-01", "0000-12-31", "10000-01-01", "9999-12-32", // no dates
		"2024/01/31", "2024.01.31", "20240131", "31-01-2024", "2024-31-01", "2024_01_31", "2024-01:31", "2024\u201001\u201031", "2024\u221201\u221231", // other layouts
		" 2024-01-31", "2024-01-31 ", "2024-01-31\n", "\t2024-01-31", "2024- 1-31", "2024-01- 1", "2024 -01-31", "2024-01-31\x00", "\x002024-01-31", // spaces
		"+024-01-31", "-024-01-31", "2024-+1-31", "2024--1-31", "2024-01-+1", "2024-01--1", "0x24-01-31", "2e24-01-31", "2024-0a-31", "YYYY-MM-DD", "2024-MM-31", // no digits
		"\uff12\uff10\uff12\uff14-01-31", "2024-\u0660\u0661-31", "\xff024-01-31", "2024-01-3\xb1", "abcd-ef-gh", "2024-01-31T00:00:00Z",
	} {
		n, ok := date.Parse(s)
		if n != 0 || ok {
			t.Errorf("Parse(%q) = %d, %t", s, n, ok)
		}
	}
}

// TestParseOfOtherBytes puts each byte at and before each place of a text, and leaves each byte out.
func TestParseOfOtherBytes(t *testing.T) {
	c := newCalendar()
	check := func(s string) {
		t.Helper()
		want, wanted := dateOf(c, s)
		if got, ok := date.Parse(s); got != want || ok != wanted {
			t.Fatalf("Parse(%q) = %d, %t, not %d, %t", s, got, ok, want, wanted)
		}
	}
	for _, text := range []string{"2024-02-29", "1999-12-31", "0001-01-01", "9999-10-30", "0400-11-09"} {
		for place := range len(text) + 1 {
			for b := range 256 {
				other := string([]byte{byte(b)})
				check(text[:place] + other + text[place:])
				if place < len(text) {
					check(text[:place] + other + text[place+1:])
				}
			}
			if place < len(text) {
				check(text[:place] + text[place+1:])
			}
		}
	}
}

// TestParseOfAllMonthsAndDays also has months and days that are none.
func TestParseOfAllMonthsAndDays(t *testing.T) {
	c := newCalendar()
	for _, year := range []int{0, 1, 4, 100, 400, 1900, 2000, 2023, 2024, 9999} {
		for month := range 100 {
			for day := range 100 {
				s := fmt.Sprintf("%04d-%02d-%02d", year, month, day)
				want, wanted := c.number(civil{year, month, day})
				if got, ok := date.Parse(s); got != want || ok != wanted {
					t.Errorf("Parse(%q) = %d, %t", s, got, ok)
				}
			}
		}
	}
}
