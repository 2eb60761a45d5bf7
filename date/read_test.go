package date_test

import (
	"regexp"
	"strconv"
	"strings"
	"testing"

	"concord/date"
)

// P3.4: Read.

// reader finds out by a regular expression what should be read of texts in a right layout.
type reader struct {
	layout  string
	pattern *regexp.Regexp
	dates   *calendar
}

// newReader returns a reader for a right layout.
func newReader(layout string, dates *calendar) *reader {
	pattern := partOfLayout.ReplaceAllStringFunc(regexp.QuoteMeta(layout), func(part string) string {
		switch part {
		case "YYYY":
			return `(?P<year>[0-9]{4})`
		case "MM":
			return `(?P<month>[0-9]{2})`
		case "M":
			return `(?P<month>[1-9][0-9]?)`
		case "DD":
			return `(?P<day>[0-9]{2})`
		case "D":
			return `(?P<day>[1-9][0-9]?)`
		}
		return part
	})
	return &reader{layout, regexp.MustCompile(`\A` + pattern + `\z`), dates}
}

// number returns what Read should return.
func (r *reader) number(s string) (int, bool) {
	m := r.pattern.FindStringSubmatch(s)
	if m == nil {
		return 0, false
	}
	part := func(name string) int {
		value, _ := strconv.Atoi(m[r.pattern.SubexpIndex(name)])
		return value
	}
	return r.dates.number(civil{part("year"), part("month"), part("day")})
}

// check compares the result for s.
func (r *reader) check(t *testing.T, s string) {
	t.Helper()
	want, wanted := r.number(s)
	if got, ok := date.Read(r.layout, s); got != want || ok != wanted {
		t.Fatalf("Read(%q, %q) = %d, %t, not %d, %t", r.layout, s, got, ok, want, wanted)
	}
}

// layoutsToRead are right layouts of all forms.
func layoutsToRead() []string {
	return []string{"D.M.YYYY", "YYYY-MM-DD", "YYYYMMDD", "MM/D/YYYY", "DDM/YYYY", "YYYYMMD", "YYYYDDM", "M-DDYYYY", "on D, M, YYYY.", "YYYY M  D ", "(DD)MM+YYYY*"}
}

func TestExamplesOfRead(t *testing.T) {
	for _, c := range []struct {
		layout, s string
		n         int
		ok        bool
	}{
		{"D.M.YYYY", "29.2.2000", 730178, true}, {"D.M.YYYY", "29.02.2000", 0, false}, {"DD.MM.YYYY", "29.02.2000", 730178, true}, {"DD.MM.YYYY", "29.2.2000", 0, false},
		{"D.M.YYYY", "1.1.0001", 0, true}, {"D.M.YYYY", "1.1.1", 0, false}, {"D.M.YYYY", "01.1.0001", 0, false}, {"D.M.YYYY", "1.1.00001", 0, false}, {"D.M.YYYY", "31.12.9999", 3652058, true},
		{"D.M.YYYY", "1.1.0000", 0, false}, {"D.M.YYYY", "31.12.10000", 0, false}, {"D.M.YYYY", "29.2.1900", 0, false}, {"D.M.YYYY", "0.1.2000", 0, false}, {"D.M.YYYY", "1.0.2000", 0, false}, {"D.M.YYYY", "1.13.2000", 0, false},
		{"YYYYMMDD", "20000229", 730178, true}, {"YYYYMMD", "20000229", 730178, true}, {"YYYYMMD", "2000021", 730150, true}, {"YYYYMMD", "20000201", 0, false},
		{"D.M.YYYY", "D.M.YYYY", 0, false}, {"D.M.YYYY", "", 0, false}, {"", "", 0, false}, {"DMYYYY", "2922000", 0, false}, {"YYYY", "2000", 0, false}, {"x", "x", 0, false},
	} {
		if got, ok := date.Read(c.layout, c.s); got != c.n || ok != c.ok {
			t.Errorf("Read(%q, %q) = %d, %t", c.layout, c.s, got, ok)
		}
	}
}

// TestReadOfOtherBytes changes texts by a byte: another one, one more, or one less.
func TestReadOfOtherBytes(t *testing.T) {
	dates := newCalendar()
	others := []byte("0123456789-./ (),+*DMYymd\x00\x1f\x7f\x80\xb2\xff")
	for _, layout := range layoutsToRead() {
		r := newReader(layout, dates)
		for _, d := range []civil{{2024, 2, 29}, {1999, 12, 31}, {1, 1, 1}, {9999, 10, 30}, {400, 11, 9}, {2023, 1, 12}} {
			text := inLayout(layout, d)
			r.check(t, text)
			for place := range len(text) + 1 {
				for _, b := range others {
					other := string([]byte{b})
					r.check(t, text[:place]+other+text[place:])
					if place < len(text) {
						r.check(t, text[:place]+other+text[place+1:])
					}
				}
				r.check(t, text[:place])
				r.check(t, text[place:])
				if place < len(text) {
					r.check(t, text[:place]+text[place+1:])
				}
			}
		}
	}
}

// TestReadInAnotherLayout reads texts of one layout in all others.
func TestReadInAnotherLayout(t *testing.T) {
	dates := newCalendar()
	s := &samples{state: 5}
	for _, layout := range layoutsToRead() {
		r := newReader(layout, dates)
		for _, other := range layoutsToRead() {
			for range 100 {
				year, month, day, _ := date.Civil(s.number())
				r.check(t, inLayout(other, civil{year, month, day}))
			}
		}
	}
}

// TestReadOfNumbersThatFit also has days, months and years that are none.
func TestReadOfNumbersThatFit(t *testing.T) {
	dates := newCalendar()
	for _, layout := range layoutsToRead() {
		r := newReader(layout, dates)
		for _, year := range []int{0, 1, 4, 1900, 2000, 2023, 9999, 10000, 20241} {
			for month := range 24 {
				for day := range 42 {
					r.check(t, inLayout(layout, civil{year, month, day}))
				}
			}
		}
	}
}

func TestReadOfLongTexts(t *testing.T) {
	long := strings.Repeat("0", 1<<20)
	for _, layout := range layoutsToRead() {
		text := inLayout(layout, civil{2024, 11, 30})
		for _, s := range []string{text + long, long + text, long, strings.Repeat(text, 1000)} {
			if n, ok := date.Read(layout, s); n != 0 || ok {
				t.Errorf("Read(%q) of %d bytes = %d, %t", layout, len(s), n, ok)
			}
		}
	}
}
