package date_test

import (
	"fmt"
	"regexp"
	"strings"
	"testing"

	"concord/api"
	"concord/date"
)

// P3.4: Format, and which layouts are right; Read is in read_test.go.

var (
	// partOfLayout is a field, the longest one at its place, or another byte; (?s) lets a point be a line feed.
	partOfLayout = regexp.MustCompile(`(?s)YYYY|MM|M|DD|D|.`)
	// openField is M or D with another field directly after it.
	openField = regexp.MustCompile(`(?:^|[^M])M(?:D|YYYY)|(?:^|[^D])D(?:M|YYYY)`)
)

// isRight reports whether a layout is right, without the help of the package.
func isRight(layout string) bool {
	if len(layout) > 40 {
		return false
	}
	for i := range len(layout) {
		if layout[i] < 32 || layout[i] > 126 || layout[i] >= '0' && layout[i] <= '9' {
			return false
		}
	}
	counts := map[string]int{}
	for _, part := range partOfLayout.FindAllString(layout, -1) {
		counts[part]++
	}
	if counts["YYYY"] != 1 || counts["MM"]+counts["M"] != 1 || counts["DD"]+counts["D"] != 1 || counts["Y"] > 0 {
		return false
	}
	return !openField.MatchString(layout)
}

// inLayout returns a date in a layout, without the help of the package.
func inLayout(layout string, d civil) string {
	return partOfLayout.ReplaceAllStringFunc(layout, func(part string) string {
		switch part {
		case "YYYY":
			return fmt.Sprintf("%04d", d.year)
		case "MM":
			return fmt.Sprintf("%02d", d.month)
		case "M":
			return fmt.Sprint(d.month)
		case "DD":
			return fmt.Sprintf("%02d", d.day)
		case "D":
			return fmt.Sprint(d.day)
		}
		return part
	})
}

// checkLayout compares the results for a layout and a date with those that the layout should have.
func checkLayout(t *testing.T, layout string, n int, d civil) {
	t.Helper()
	right := isRight(layout)
	want, read := "", 0
	if right {
		want, read = inLayout(layout, d), n
	}
	if got, ok := date.Format(layout, n); got != want || ok != right {
		t.Fatalf("Format(%q, %d) = %q, %t, not %q, %t", layout, n, got, ok, want, right)
	}
	text := inLayout(layout, d)
	if got, ok := date.Read(layout, text); got != read || ok != right {
		t.Fatalf("Read(%q, %q) = %d, %t, not %d, %t", layout, text, got, ok, read, right)
	}
}

// numbered returns a date with its number.
func numbered(t *testing.T, year, month, day int) (int, civil) {
	t.Helper()
	n, ok := date.Number(year, month, day)
	if !ok {
		t.Fatalf("Number(%d, %d, %d) is false", year, month, day)
	}
	return n, civil{year, month, day}
}

func TestExamplesOfLayouts(t *testing.T) {
	n, _ := numbered(t, 2000, 2, 29)
	for layout, want := range map[string]string{
		"D.M.YYYY": "29.2.2000", "DD.MM.YYYY": "29.02.2000", "YYYY-MM-DD": "2000-02-29", "YYYYMMDD": "20000229", "MM/DD/YYYY": "02/29/2000", "M/D/YYYY": "2/29/2000", "DDMMYYYY": "29022000",
		"YYYYMMD": "20000229", "YYYYM D": "20002 29", "DDYYYYM": "2920002", "DDM-YYYY": "292-2000", "MMD-YYYY": "0229-2000", "YYYYD:MM": "200029:02",
		"day D of month M in the year YYYY": "day 29 of month 2 in the year 2000", "%d %s D $1 M \\1 YYYY": "%d %s 29 $1 2 \\1 2000",
		"": "", "D.M": "", "M.YYYY": "", "D.YYYY": "", "DMYYYY": "", "MDYYYY": "", "DMMYYYY": "", "MDDYYYY": "", "DYYYYMM": "", "MYYYYDD": "", "D.MYYYY": "", "M.DYYYY": "", "YYYYMD": "", "YYYYDM": "",
	} {
		if strings.ContainsAny(layout, "0123456789") {
			want = "" // no digit may be in a layout
		}
		if got, ok := date.Format(layout, n); got != want || ok != (want != "") {
			t.Errorf("Format(%q, %d) = %q, %t, not %q", layout, n, got, ok, want)
		}
		if got, ok := date.Read(layout, want); want != "" && (got != n || !ok) || want == "" && (got != 0 || ok) {
			t.Errorf("Read(%q, %q) = %d, %t", layout, want, got, ok)
		}
	}
}

// TestZerosInFront has the shortest and the longest texts of each field.
func TestZerosInFront(t *testing.T) {
	for _, c := range []struct {
		d           civil
		long, short string
	}{
		{civil{1, 1, 1}, "0001,01,01", "0001,1,1"}, {civil{12, 3, 31}, "0012,03,31", "0012,3,31"}, {civil{123, 12, 9}, "0123,12,09", "0123,12,9"}, {civil{999, 10, 10}, "0999,10,10", "0999,10,10"}, {civil{9999, 12, 31}, "9999,12,31", "9999,12,31"},
	} {
		n, _ := numbered(t, c.d.year, c.d.month, c.d.day)
		if got, ok := date.Format("YYYY,MM,DD", n); got != c.long || !ok {
			t.Errorf("Format of %v = %q, %t", c.d, got, ok)
		}
		if got, ok := date.Format("YYYY,M,D", n); got != c.short || !ok {
			t.Errorf("Format of %v = %q, %t", c.d, got, ok)
		}
	}
}

// TestSequencesOfParts tries all layouts of up to five of these parts: with fields that are missing, or there twice, or directly one after the other.
func TestSequencesOfParts(t *testing.T) {
	parts := []string{"YYYY", "MM", "M", "DD", "D", "-", "Y", "7", "m"}
	n, d := numbered(t, 2024, 1, 5)
	right := 0
	var try func(layout string, left int)
	try = func(layout string, left int) {
		checkLayout(t, layout, n, d)
		if isRight(layout) {
			right++
		}
		if left == 0 {
			return
		}
		for _, part := range parts {
			try(layout+part, left-1)
		}
	}
	try("", 5)
	if right < 500 {
		t.Errorf("%d of the layouts were right", right)
	}
}

// TestSequencesOfLetters tries all layouts of up to nine of these bytes around a field for the year, and all without one of up to seven.
func TestSequencesOfLetters(t *testing.T) {
	n, d := numbered(t, 1987, 11, 30)
	var try func(begin, end string, left int)
	try = func(begin, end string, left int) {
		checkLayout(t, begin+end, n, d)
		if left == 0 {
			return
		}
		for _, letter := range "YMD." {
			try(begin+string(letter), end, left-1)
		}
	}
	try("", "", 7)
	try("", "YYYY", 5)
	try("YYYY", "", 5)
	try("DD", "YYYY", 5)
	try("M", "D.YYYY", 4)
	try("D", "M", 6)
}

// TestBytesOfLayouts puts each byte at each place between and around the fields.
func TestBytesOfLayouts(t *testing.T) {
	n, d := numbered(t, 2024, 9, 8)
	for _, layout := range []string{"YYYY-MM-DD", "D.M.YYYY", "MMDDYYYY", "YYYYDDM"} {
		for place := range len(layout) + 1 {
			for b := range 256 {
				checkLayout(t, layout[:place]+string([]byte{byte(b)})+layout[place:], n, d)
			}
		}
	}
}

// TestBytesBetweenFields names the bytes that a right layout may contain.
func TestBytesBetweenFields(t *testing.T) {
	for b := range 256 {
		want := b >= 32 && b <= 126 && !strings.ContainsRune("YMD0123456789", rune(b))
		layout := "DD" + string([]byte{byte(b)}) + "-MM-YYYY"
		if text, ok := date.Format(layout, 0); ok != want || ok && text != "01"+string([]byte{byte(b)})+"-01-0001" {
			t.Errorf("Format(%q, 0) = %q, %t", layout, text, ok)
		}
	}
}

func TestLengthsOfLayouts(t *testing.T) {
	n, d := numbered(t, 2024, 9, 8)
	for length := range 45 {
		for _, fields := range []string{"YYYYMMDD", "D,M,YYYY", "YYYY M D"} {
			other := strings.Repeat("x", max(0, length-len(fields)))
			for _, layout := range []string{fields + other, other + fields} {
				checkLayout(t, layout, n, d)
				if _, ok := date.Format(layout, n); ok != (len(layout) <= 40) {
					t.Errorf("Format(%q, %d) is %t", layout, n, ok)
				}
			}
		}
	}
	for _, layout := range []string{strings.Repeat("D", 1<<20), "D.M.YYYY" + strings.Repeat(" ", 1<<20), strings.Repeat("\xff", 41), "D.M.YYYY" + strings.Repeat("\u00e9", 16)} {
		checkLayout(t, layout, n, d)
	}
}

func TestLayoutsOfOtherNumbers(t *testing.T) {
	for _, n := range notNumbers() {
		for _, layout := range []string{"YYYY-MM-DD", "D.M.YYYY", "", "DMYYYY", "x"} {
			if text, ok := date.Format(layout, n); text != "" || ok {
				t.Errorf("Format(%q, %d) = %q, %t", layout, n, text, ok)
			}
		}
	}
}

// anyLayout returns a layout that is right more often than not.
func anyLayout(s *samples) string {
	fields := []string{"YYYY", element(s, []string{"MM", "M"}), element(s, []string{"DD", "D"})}
	layout := element(s, []string{"", "", " ", "at ", "[", "MM"})
	for len(fields) > 0 {
		i := s.below(len(fields))
		layout += fields[i] + element(s, []string{"-", ".", "/", ", ", " of ", "", "y", "%", "\x7f"})
		fields = append(fields[:i], fields[i+1:]...)
	}
	return layout
}

func TestLayoutsOfSamples(t *testing.T) {
	s := &samples{state: 4}
	for range 60000 {
		n := element(s, []int{s.number(), s.number(), s.below(800), api.MaxDay - s.below(800)})
		year, month, day, _ := date.Civil(n)
		checkLayout(t, anyLayout(s), n, civil{year, month, day})
	}
}
