package table_test

import (
	"slices"
	"strings"
	"testing"

	"concord/api"
	"concord/table"
)

// P9.7: Set, Diff.

func checkSet(t *testing.T, b []api.Lookup, x api.Lookup) api.Errno {
	t.Helper()
	got, e := table.Set(b, x)
	want, wantErr := wantedSet(b, x)
	if fieldsOfLookups(got) != fieldsOfLookups(want) || len(got) != len(want) || e != wantErr {
		t.Fatalf("Set(%s, %s) = %s, %d, not %s, %d", fieldsOfLookups(b), fieldsOfLookup(x), fieldsOfLookups(got), e, fieldsOfLookups(want), wantErr)
	}
	return e
}

// tablesWithNames returns a table for each word, with the name up to a dash, and a column with what is behind it.
func tablesWithNames(words string) []api.Lookup {
	var l []api.Lookup
	for _, word := range strings.Fields(words) {
		name, col, _ := strings.Cut(word, "-")
		l = append(l, lookup(name, names("c"+col), row(text(word))))
	}
	return l
}

func TestExamplesOfSet(t *testing.T) {
	for _, c := range []struct {
		b, t, want string
		e          api.Errno
	}{
		{"", "a", "a", 0}, {"b", "a", "a b", 0}, {"a", "b", "a b", 0}, {"a-1", "a-2", "a-2", 0}, {"a-1 b-1 c-1", "b-2", "a-1 b-2 c-1", 0}, {"c b a", "d", "a b c d", 0}, {"a aa ab b B A", "a-2", "A B a-2 aa ab b", 0}, {"z1 z Z z_ z10 z2", "z-2", "Z z-2 z1 z10 z2 z_", 0},
		{"a b c d e", "f", "a b c d e f", 0}, {"a b c d e f", "f-2", "a b c d e f-2", 0}, {"a b c d e f", "a-2", "a-2 b c d e f", 0}, {"a b c d e f", "g", "", 2}, {"a b c d e f g h", "i", "", 2}, {"a b c d e f g h", "h-2", "a b c d e f g h-2", 0}, {"a b c d e f g h", "0", "", 1}, {"a", "", "", 1},
		{"b-1 a-1 b-2 a-2 b-3", "c", "a-1 a-2 b-1 b-2 b-3 c", 0}, {"b-1 a-1 b-2 a-2 b-3", "b-4", "a-1 a-2 b-4", 0}, {"b-1 b-2 b-3 b-4 b-5 b-6 b-7", "b-8", "b-8", 0}, {"b-1 b-2 b-3 b-4 b-5 b-6", "a", "", 2}, {"c-2 c-1 a", "b", "a b c-2 c-1", 0},
	} {
		x := api.Lookup{Cols: names("a")}
		if l := tablesWithNames(c.t); len(l) > 0 {
			x = l[0]
		}
		got, e := table.Set(tablesWithNames(c.b), x)
		if fieldsOfLookups(got) != fieldsOfLookups(tablesWithNames(c.want)) || e != c.e {
			t.Errorf("Set(%s, %s) = %s, %d", c.b, c.t, fieldsOfLookups(got), e)
		}
		checkSet(t, tablesWithNames(c.b), x)
	}
}

// TestSetKeepsOtherTables has tables that are not right in b.
func TestSetKeepsOtherTables(t *testing.T) {
	deep := tableOf(names("x"), row(tableOf(names("y"), row(text("a")))))
	b := []api.Lookup{lookup("z", nil, nil, row(deep)), lookup("", names("a", "a"), row(failed(-1))), lookup("b", names("a")), {}, lookup("z", names("b"), row(text("x")), row(day(1)))}
	x := lookup("b", names("new"), row(number(1, 0)))
	got, e := table.Set(b, x)
	want := []api.Lookup{b[1], b[3], x, b[0], b[4]}
	if fieldsOfLookups(got) != fieldsOfLookups(want) || e != api.OK {
		t.Errorf("Set = %s, %d", fieldsOfLookups(got), e)
	}
}

func TestSetOfSamples(t *testing.T) {
	s := &samples{state: 8}
	counts := map[api.Errno]int{}
	const tries = 8000
	for range tries {
		var b []api.Lookup
		for range s.below(9) {
			x := s.lookup()
			if s.below(4) == 0 {
				x = s.otherLookup(x)
			}
			b = append(b, x)
		}
		x := s.lookup()
		if s.below(4) == 0 {
			x.Name = element(s, names("x", "A", "zz"))
		}
		if s.below(8) == 0 {
			x = s.otherLookup(x)
		}
		counts[checkSet(t, b, x)]++
	}
	for _, e := range []api.Errno{api.OK, api.ErrArg, api.ErrMany} {
		if counts[e] < tries/20 {
			t.Errorf("%d results with the error %d", counts[e], e)
		}
	}
}

func checkDiff(t *testing.T, a, b api.Lookup) []string {
	t.Helper()
	want := wantedDiff(a, b)
	for _, got := range [][]string{table.Diff(a, b), table.Diff(b, a)} {
		if !slices.Equal(got, want) {
			t.Fatalf("Diff(%s, %s) = %q, not %q", fieldsOfLookup(a), fieldsOfLookup(b), got, want)
		}
	}
	return want
}

func TestExamplesOfDiff(t *testing.T) {
	x, none := text("x"), failed(0)
	ab := names("a", "b")
	for _, c := range []struct {
		a, b api.Value
		want string
	}{
		{tableOf(ab, row(x, x)), tableOf(ab, row(x, x)), ""}, {tableOf(ab, row(x, x)), tableOf(ab, row(x, none)), "b"}, {tableOf(ab, row(x, x)), tableOf(ab, row(text("y"), x)), "a"}, {tableOf(ab, row(x, x)), tableOf(ab, row(text("y"), text("y"))), "ab"}, {tableOf(ab, row(x, x), row(x, x)), tableOf(ab, row(none, x), row(x, none)), "ab"}, {tableOf(ab, row(x, x), row(x, x), row(x, x)), tableOf(ab, row(x, x), row(x, x), row(x, none)), "b"}, {tableOf(ab), tableOf(ab), ""}, {tableOf(nil), tableOf(nil), ""},
		// Other columns, or another number of rows.
		{tableOf(ab), tableOf(names("b", "a")), "ab"}, {tableOf(names("b", "a")), tableOf(names("a", "b", "c")), "abc"}, {tableOf(names("c")), tableOf(names("a")), "ac"}, {tableOf(nil), tableOf(names("b", "a", "b")), "ab"}, {tableOf(ab, row(x, x)), tableOf(ab), "ab"}, {tableOf(names("b", "a"), row(x, x)), tableOf(names("b", "a"), row(x, x), row(x, x)), "ab"}, {tableOf(nil, nil), tableOf(nil), ""}, {tableOf(ab, row(x, x)), tableOf(names("a"), row(x)), "ab"}, {tableOf(names("a", "B")), tableOf(names("a", "b")), "Bab"},
		// The order of columns.
		{tableOf(names("b", "a"), row(x, x)), tableOf(names("b", "a"), row(none, none)), "ab"}, {tableOf(letters("zaZb"), row(x, x, x, x)), tableOf(letters("zaZb"), row(none, none, none, x)), "Zaz"},
		// Missing cells, and cells behind the columns.
		{tableOf(ab, row(x)), tableOf(ab, row(x, none)), ""}, {tableOf(ab, row(x)), tableOf(ab, row(x, failed(1))), "b"}, {tableOf(ab, row(x)), tableOf(ab, row(x, x)), "b"}, {tableOf(ab, nil), tableOf(ab, row(none, x)), "b"}, {tableOf(ab, nil), tableOf(ab, row(none)), ""}, {tableOf(ab, nil), tableOf(ab, row(x)), "a"}, {tableOf(ab, row(x, x)), tableOf(ab, row(x, x, x)), ""}, {tableOf(nil, row(x)), tableOf(nil, row(none)), ""}, {tableOf(ab, row(x, x), nil), tableOf(ab, row(x, x), row(none, none)), ""},
		// Columns with the same name are compared each by its place.
		{tableOf(names("a", "a"), row(x, x)), tableOf(names("a", "a"), row(x, none)), "a"}, {tableOf(names("a", "a"), row(x, x)), tableOf(names("a", "a"), row(none, x)), "a"}, {tableOf(names("a", "a"), row(x, x)), tableOf(names("a", "a"), row(none, none)), "a"}, {tableOf(names("a", "b", "a"), row(x, x, x)), tableOf(names("a", "b", "a"), row(x, none, none)), "ab"}, {tableOf(names("a", "a"), row(x, x)), tableOf(names("a", "a"), row(x, x)), ""}, {tableOf(names("a", "a")), tableOf(names("a")), "a"},
		// Cells that are not right.
		{tableOf(ab, row(number(10, 1), x)), tableOf(ab, row(number(1, 0), x)), "a"}, {tableOf(ab, row(tableOf(nil), x)), tableOf(ab, row(tableOf(nil, nil), x)), "a"}, {tableOf(ab, row(tableOf(ab), x)), tableOf(ab, row(tableOf(ab), x)), ""}, {tableOf(ab, row(failed(-1), x)), tableOf(ab, row(failed(-1), x)), ""},
	} {
		for _, name := range names("t", "other") {
			got := checkDiff(t, lookup("t", c.a.Cols, c.a.Rows...), lookup(name, c.b.Cols, c.b.Rows...))
			if strings.Join(got, "") != c.want {
				t.Errorf("Diff(%s, %s) = %q", fields(c.a), fields(c.b), got)
			}
		}
	}
}

func TestDiffOfSamples(t *testing.T) {
	s := &samples{state: 9}
	sizes := map[bool]int{}
	const tries = 15000
	for range tries {
		a := s.lookup()
		if s.below(4) == 0 && len(a.Cols) > 1 {
			a.Cols[s.below(len(a.Cols))] = element(s, a.Cols)
		}
		if s.below(4) == 0 {
			a = s.otherLookup(a)
		}
		b := lookup(a.Name, a.Cols, a.Rows...)
		switch s.below(6) {
		case 0:
			b = s.otherLookup(b)
		case 1:
			b = s.lookup()
		default:
			for range s.below(4) {
				b.Rows = s.otherRows(b.Rows)
			}
		}
		l := checkDiff(t, a, b)
		sizes[len(l) > 0 && len(l) < len(a.Cols)]++
	}
	if sizes[true] < tries/10 || sizes[false] < tries/10 {
		t.Errorf("some but not all columns: %v", sizes)
	}
}
