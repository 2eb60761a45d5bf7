package table_test

import (
	"strconv"
	"testing"

	"concord/api"
	"concord/table"
)

// P9.6: Keys.

// checkKeys compares Keys with the reference, and returns what it has returned.
func checkKeys(t *testing.T, cols []string, rows [][]api.Value) []api.Dep {
	t.Helper()
	got, want := table.Keys(cols, rows), wantedKeys(cols, rows)
	if fieldsOfDeps(got) != fieldsOfDeps(want) {
		t.Fatalf("Keys(%q, %s) = %s, not %s", cols, fieldsOfRows(rows), fieldsOfDeps(got), fieldsOfDeps(want))
	}
	return got
}

func TestExamplesOfKeys(t *testing.T) {
	for _, c := range []struct {
		table string
		want  []api.Dep
	}{
		{"[city,zip,country;'Rome',#1,'it';'Oslo',#2,'no';'Bergen',#3,'no']", []api.Dep{{From: names("city"), To: "zip"}, {From: names("city"), To: "country"}, {From: names("zip"), To: "city"}, {From: names("zip"), To: "country"}}},
		{"[]", nil}, {"[;]", nil}, {"[;;]", nil}, {"[a]", []api.Dep{dep("", "a")}}, {"[a;#1;#1]", []api.Dep{dep("", "a")}}, {"[a;#1;#2]", nil}, {"[a,b]", []api.Dep{dep("", "a"), dep("", "b")}}, {"[b,a;#1,#2]", []api.Dep{dep("", "b"), dep("", "a")}}, {"[a,b;#1,#2;#1,#2]", []api.Dep{dep("", "a"), dep("", "b")}}, {"[a,b;!0,!0;!0,!0]", []api.Dep{dep("", "a"), dep("", "b")}},
		{"[a,b;#1,#1;#2,#1]", []api.Dep{dep("a", "b")}}, {"[a,b;#1,#1;#1,#2]", []api.Dep{dep("b", "a")}}, {"[a,b;#1,#1;#2,#2]", []api.Dep{dep("a", "b"), dep("b", "a")}}, {"[a,b;#1,#1;#1,#2;#2,#1]", nil}, {"[b,a;#1,#1;#2,#2;#1,#1]", []api.Dep{dep("b", "a"), dep("a", "b")}}, {"[a,b;!0,#1;!1,#1]", []api.Dep{dep("a", "b")}}, {"[a,b;!0,#1;!0,#2;#1,#1]", nil},
		{"[a,b,c;#1,#1,#1;#1,#2,#1;#2,#1,#1;#2,#2,#2]", []api.Dep{dep("ab", "c")}}, {"[c,b,a;#1,#1,#1;#1,#2,#1;#2,#1,#1;#2,#2,#2]", []api.Dep{dep("cb", "a")}}, {"[a,b,c;#1,#1,#1;#1,#2,#2;#2,#1,#2;#2,#2,#1]", []api.Dep{dep("ab", "c"), dep("ac", "b"), dep("bc", "a")}},
		{"[a,b,c;#1,#1,#1;#1,#2,#2;#2,#1,#3]", []api.Dep{dep("c", "a"), dep("c", "b"), dep("ab", "c")}}, {"[a,b,c,d;?0,?0,?0,?0;?0,?0,?1,?1;?0,?1,?0,?1;?1,?0,?0,?1]", nil}, {"[a,b,c,d;?0,?0,?0,?1;?0,?1,?0,?1;?1,?0,?0,?0;?1,?1,?0,?0]", []api.Dep{dep("ab", "c"), dep("ab", "d"), dep("bd", "a"), dep("bd", "c")}},
	} {
		x := ofTable(c.table)
		if got := checkKeys(t, x.Cols, x.Rows); fieldsOfDeps(got) != fieldsOfDeps(c.want) {
			t.Errorf("Keys of %s: %s", c.table, fieldsOfDeps(got))
		}
	}
}

// TestNoKeys has columns that are not different, and rows with another number of cells.
func TestNoKeys(t *testing.T) {
	one := number(1, 0)
	for _, x := range []api.Value{
		tableOf(names("a", "a"), row(one, one)), tableOf(names("a", "a")), tableOf(names("a", "b", "a")), tableOf(names("", "b", "")), tableOf(names("a", "b"), row(one)), tableOf(names("a", "b"), row(one, one, one)), tableOf(names("a", "b"), row(one, one), nil), tableOf(names("a", "b"), nil, row(one, one)), tableOf(names("a", "b"), row(one, one), row(one, one), row(one, one, one)), tableOf(nil, row(one)),
	} {
		if got := checkKeys(t, x.Cols, x.Rows); len(got) != 0 {
			t.Errorf("Keys of %s: %s", fields(x), fieldsOfDeps(got))
		}
	}
}

// TestKeysWithAnyNames has names that no right table has, and cells that are not right.
func TestKeysWithAnyNames(t *testing.T) {
	cols := names("", "a b", "ä")
	deep := tableOf(names("x"), row(tableOf(nil)))
	got := checkKeys(t, cols, [][]api.Value{row(deep, number(10, 1), failed(-1)), row(text("ä"), number(1, 0), failed(-1)), row(deep, number(1, 0), failed(-1))})
	if fieldsOfDeps(got) != fieldsOfDeps([]api.Dep{{From: names("", "a b"), To: "ä"}}) {
		t.Errorf("Keys: %s", fieldsOfDeps(got))
	}
	l := otherValues()
	for _, x := range l {
		for _, y := range l {
			checkKeys(t, cols, [][]api.Value{row(x, y, x), row(y, y, x), row(x, x, y)})
		}
	}
}

func TestKeysOfSamples(t *testing.T) {
	s := &samples{state: 7}
	sizes := map[int]int{}
	const tries = 6000
	for range tries {
		x := s.table()
		switch s.below(8) {
		case 0:
			x.Rows = s.otherRows(x.Rows)
		case 1:
			if len(x.Cols) > 1 {
				x.Cols[s.below(len(x.Cols))] = element(s, x.Cols)
			}
		}
		got := checkKeys(t, x.Cols, x.Rows)
		if len(got) == 0 {
			sizes[-1]++
			continue
		}
		sizes[len(got[len(got)-1].From)]++
	}
	for size := -1; size <= 2; size++ {
		if sizes[size] < tries/20 {
			t.Errorf("the last keys have these sizes: %v", sizes)
		}
	}
}

// TestKeysOfAllSmallTables has all tables with three columns, and with up to four rows of two different cells.
func TestKeysOfAllSmallTables(t *testing.T) {
	cols := letters("abc")
	for count := range 5 {
		for number := range 1 << (3 * count) {
			rows := make([][]api.Value, count)
			for i := range rows {
				for k := range cols {
					rows[i] = append(rows[i], truth(number>>(3*i+k)&1))
				}
			}
			checkKeys(t, cols, rows)
		}
	}
}

// TestKeysOfManyColumns has more columns than a table can have.
func TestKeysOfManyColumns(t *testing.T) {
	var cols []string
	rows := make([][]api.Value, 30)
	for i := range 30 {
		cols = append(cols, strconv.Itoa(i))
		for k := range rows {
			rows[k] = append(rows[k], truth(k*(i+7)/5%2))
		}
	}
	checkKeys(t, cols, rows)
	for k := range rows {
		rows[k][9] = number(k/2, 0)
		rows[k][20] = number(k, 0)
	}
	if got := checkKeys(t, cols, rows); len(got) < 2*29 {
		t.Errorf("%d dependencies", len(got))
	}
}
