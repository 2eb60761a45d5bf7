package value_test

import (
	"slices"
	"strings"
	"testing"

	"concord/api"
	"concord/value"
)

// P6.5 and P6.6: RowText, ReadRow, Fits.

// checkRowText compares the RowText of right values with what is wanted, and ReadRow of it with the values.
func checkRowText(t *testing.T, l []api.Value, want string) {
	t.Helper()
	if got := value.RowText(l); got != want {
		t.Fatalf("RowText(%s) = %q, not %q", allFields(l), got, want)
	}
	if back, ok := value.ReadRow(want); !ok || allFields(back) != allFields(l) {
		t.Fatalf("ReadRow(%q) = %s, %t", want, allFields(back), ok)
	}
}

// checkReadRow compares ReadRow of a string with the reference, and returns whether there are values.
func checkReadRow(t *testing.T, s string) bool {
	t.Helper()
	want, wantOk := rowWith(s)
	if l, ok := value.ReadRow(s); ok != wantOk || len(l) != len(want) || allFields(l) != allFields(want) {
		t.Fatalf("ReadRow(%q) = %s, %t, not %s, %t", s, allFields(l), ok, allFields(want), wantOk)
	}
	return wantOk
}

func TestTextsOfRows(t *testing.T) {
	checkRowText(t, row(text("a|b"), number(1, 0)), "'a|b'|#1")
	checkRowText(t, nil, "")
	checkRowText(t, row(), "")
	checkRowText(t, row(text("")), "''")
	checkRowText(t, row(text("|"), text("'|'")), "'|'|'''|'''")
	checkRowText(t, row(failed(0), day(0), truth(1)), "!0|@0001-01-01|?1")
	checkRowText(t, row(table(nil), table(names("a", "b"), row(text("|]"), number(-1, 1))), table(nil, nil)), "[]|[a,b;'|]',#-0.1]|[;]")
	checkRowText(t, slices.Repeat(row(number(1, 0)), 8), "#1|#1|#1|#1|#1|#1|#1|#1")
	checkRowText(t, oneOfEachKind(), "!18|'it''s'|#3.5|@2000-02-29|?1|[a,b;'x',#2]")
}

func TestRowsThatAreTooLong(t *testing.T) {
	for _, length := range []int{9, 10, 100, 100000} {
		if s := value.RowText(make([]api.Value, length)); s != "" {
			t.Errorf("RowText of %d values = %q", length, s)
		}
		s := strings.Repeat("!0|", length-1) + "!0"
		if l, ok := value.ReadRow(s); ok || len(l) != 0 {
			t.Errorf("ReadRow of %d values = %s, %t", length, allFields(l), ok)
		}
	}
}

// TestRowsWithWrongValues has a wrong value at each place.
func TestRowsWithWrongValues(t *testing.T) {
	for _, v := range wrongValues() {
		if s := value.RowText(row(v)); s != "" {
			t.Errorf("RowText(%s) = %q", fields(v), s)
		}
		for at := range 3 {
			l := slices.Repeat(row(text("x")), 3)
			l[at] = v
			if s := value.RowText(l); s != "" {
				t.Errorf("RowText(%s) = %q", allFields(l), s)
			}
			checkReadRow(t, textsOf(l, "|"))
		}
	}
}

func TestStringsThatAreNoRows(t *testing.T) {
	for _, s := range []string{
		"|", "||", " ", "x", "!0|", "|!0", "!0||!0", "!0| !0", "!0 |!0", "!0,!0", "!0;!0", "!0|x", "x|!0", "'a|b", "'a'|'b", "'a'b'|''", "#1.0|#1", "#1|#1.0", "#1|?2", "[|]", "[]|", "[]|[", "[a;#1|#2]", "[]|[a;[]]", "[]x|[]", "[]]|!0", "?1|?1\n", "#1|#2]", "#1;|#2", "#1,|#2", "''''|'", "\x00",
		"#1|#1|#1|#1|#1|#1|#1|#1|#1", "#1|#1|#1|#1|#1|#1|#1|#1|", "#1|#1|#1|#1|#1|#1|#1|#1 ", "''|" + strings.Repeat("[]|", 7) + "''",
	} {
		if l, ok := value.ReadRow(s); ok || len(l) != 0 {
			t.Errorf("ReadRow(%q) = %s, %t", s, allFields(l), ok)
		}
		checkReadRow(t, s)
	}
}

func TestTextsOfRowSamples(t *testing.T) {
	s := &samples{state: 8}
	for range 20000 {
		l := s.row()
		if len(l) <= 8 {
			checkRowText(t, l, textsOf(l, "|"))
		}
		l = s.changeList(l)
		want := textsOf(l, "|")
		if len(l) > 8 || slices.ContainsFunc(l, func(v api.Value) bool { return !isRight(v) }) {
			want = ""
		}
		if got := value.RowText(l); got != want {
			t.Fatalf("RowText(%s) = %q, not %q", allFields(l), got, want)
		}
	}
}

func TestReadOfChangedRows(t *testing.T) {
	s := &samples{state: 9}
	right := 0
	for range 20000 {
		text := textsOf(s.row(), "|")
		for range 3 {
			text = s.changeString(text)
			if checkReadRow(t, text) {
				right++
			}
		}
	}
	if right < 2000 || right > 58000 {
		t.Errorf("%d changed rows are right", right)
	}
}

func TestReadOfAllSmallRows(t *testing.T) {
	count := 0
	stringsOf([]string{"|", "'", "a", "#1", "!0", "[", "]", "[b;?1]"}, 5, func(s string) {
		if checkReadRow(t, s) {
			count++
		}
	})
	if count < 100 {
		t.Errorf("%d strings are rows", count)
	}
}

// fits is what Fits has to return.
func fits(c []api.Column, l []api.Value) bool {
	for i, v := range l {
		if len(c) != len(l) || !isRight(v) || v.Kind != 0 && v.Kind != c[i].Kind {
			return false
		}
	}
	return len(c) == len(l)
}

func TestFitsOfOneColumn(t *testing.T) {
	values := append(rightAtTheEdge(), wrongValues()...)
	for _, kind := range append(extremeInts(), -1, 0, 1, 2, 3, 4, 5, 6) {
		c := []api.Column{{Name: "a", Kind: kind}}
		for _, v := range values {
			if got, want := value.Fits(c, row(v)), isRight(v) && (v.Kind == api.None || v.Kind == kind); got != want {
				t.Fatalf("Fits(%v, %s) = %t", c, fields(v), got)
			}
		}
	}
}

func TestFitsOfOtherLengths(t *testing.T) {
	var c []api.Column
	var l []api.Value
	for length := range 12 {
		if !value.Fits(c, l) || value.Fits(c, append(l, failed(0))) || value.Fits(append(c, api.Column{Name: "x"}), l) {
			t.Errorf("Fits of %d columns", length)
		}
		c, l = append(c, api.Column{Name: "x", Kind: api.Number}), append(l, number(length, 0))
	}
}

// TestNamesOfColumnsDoNotMatter has columns without names, with equal names, and with strings that are no names.
func TestNamesOfColumnsDoNotMatter(t *testing.T) {
	for _, name := range names("", "a", "1", "ä") {
		c := []api.Column{{Name: name, Kind: api.Text}, {Name: name, Kind: api.Bool}}
		if !value.Fits(c, row(text("x"), truth(0))) || value.Fits(c, row(truth(0), text("x"))) {
			t.Errorf("Fits with columns %q", name)
		}
	}
}

func TestFitsOfSamples(t *testing.T) {
	s := &samples{state: 10}
	fit := 0
	for range 40000 {
		l := s.row()
		var c []api.Column
		for _, v := range l {
			c = append(c, api.Column{Name: "a", Kind: v.Kind})
		}
		switch s.below(4) {
		case 0:
			l = s.changeList(l)
		case 1:
			c = append(c, api.Column{Kind: s.below(6)})
		case 2:
			if len(c) > 0 {
				c[s.below(len(c))].Kind = s.below(6)
			}
		}
		want := fits(c, l)
		if got := value.Fits(c, l); got != want {
			t.Fatalf("Fits(%v, %s) = %t", c, allFields(l), got)
		}
		if want {
			fit++
		}
	}
	if fit < 10000 || fit > 30000 {
		t.Errorf("%d rows fit", fit)
	}
}
