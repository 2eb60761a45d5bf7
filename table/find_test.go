package table_test

import (
	"strings"
	"testing"

	"concord/api"
	"concord/table"
)

// P9.1: Right, Find.

// checkRight compares Right of a table with what is wanted.
func checkRight(t *testing.T, x api.Lookup, want bool) {
	t.Helper()
	if table.Right(x) != want || isRight(x) != want {
		t.Errorf("Right(%s) is not %t", fieldsOfLookup(x), want)
	}
}

func TestRightTables(t *testing.T) {
	eight := letters("abcdefgh")
	for _, x := range []api.Lookup{
		cities(), lookup("a", names("a")), lookup("a", eight), lookup("a", eight, make([]api.Value, 8)), lookup(strings.Repeat("n", 20), names(strings.Repeat("n", 20))), lookup("Z_9", names("z", "Z")),
		lookup("t", names("a"), row(failed(0)), row(failed(99))), lookup("t", names("a"), row(failed(0)), row(text("x")), row(failed(7)), row(text("")), row(failed(0))), lookup("t", names("a", "b"), row(number(1, 0), failed(0)), row(failed(0), day(1)), row(number(15, 1), day(2))),
		lookup("t", names("a", "b", "c", "d"), row(text(""), number(0, 0), day(0), truth(0)), row(text("x"), number(5, 1), day(3652058), truth(1))), lookup("t", names("a"), make([][]api.Value, 0)...),
	} {
		checkRight(t, x, true)
	}
	hundred := make([][]api.Value, 100)
	for i := range hundred {
		hundred[i] = row(number(i, 0))
	}
	checkRight(t, lookup("t", names("a"), hundred...), true)
	checkRight(t, lookup("t", names("a"), append(hundred, row(number(100, 0)))...), false)
}

func TestTablesThatAreNotRight(t *testing.T) {
	for _, x := range []api.Lookup{
		{}, lookup("t", nil), lookup("t", nil, nil), lookup("t", nil, row()), lookup("", names("a")), lookup("t", names("a", "a")), lookup("t", letters("abcdefghi")), lookup("t", names("a"), row()), lookup("t", names("a"), row(text("x"), text("y"))), lookup("t", names("a"), row(tableOf(nil))),
		lookup("t", names("a"), row(text("x")), row(number(1, 0))), lookup("t", names("a"), row(text("x")), row(failed(0)), row(number(1, 0))), lookup("t", names("a"), row(failed(0)), row(number(1, 0)), row(day(1))), lookup("t", names("a", "b"), row(text("x"), day(0)), row(text("y"), truth(0))), lookup("t", names("a", "b"), row(day(0), text("x")), row(truth(0), text("y"))),
		lookup("t", names("a", "b", "c"), row(truth(1), text("x"), number(1, 0)), row(truth(1), failed(0), number(1, 0)), row(truth(1), day(0), number(1, 0))), lookup("t", names("a"), row(text("x")), row(text("x")), row(text("x")), row(truth(0))),
	} {
		checkRight(t, x, false)
	}
	for _, name := range otherNames() {
		checkRight(t, lookup(name, names("a")), false)
		checkRight(t, lookup("t", names("a", name)), false)
	}
	for _, v := range otherValues() {
		checkRight(t, lookup("t", names("a"), row(v)), false)
		checkRight(t, lookup("t", names("a", "b"), row(text("x"), failed(0)), row(text("y"), v)), false)
	}
}

func TestRightOfSamples(t *testing.T) {
	s := &samples{state: 1}
	right := 0
	const tries = 20000
	for range tries {
		x := s.lookup()
		if s.below(2) == 0 {
			x = s.otherLookup(x)
		}
		want := isRight(x)
		if table.Right(x) != want {
			t.Fatalf("Right(%s) is not %t", fieldsOfLookup(x), want)
		}
		if want {
			right++
		}
	}
	if right < tries/4 || right > tries*3/4 {
		t.Errorf("%d of %d tables are right", right, tries)
	}
}

// checkFind compares Find with the reference, and returns the error.
func checkFind(t *testing.T, x api.Lookup, key string, v api.Value, col string) api.Errno {
	t.Helper()
	got, e := table.Find(x, key, v, col)
	if want, wantErr := wantedFind(x, key, v, col); !same(got, want) || e != wantErr {
		t.Fatalf("Find(%s, %q, %s, %q) = %s, %d, not %s, %d", fieldsOfLookup(x), key, fields(v), col, fields(got), e, fields(want), wantErr)
	}
	return e
}

func TestExamplesOfFind(t *testing.T) {
	x := cities()
	x.Rows = append(x.Rows, row(text("Nowhere"), number(4, 0), failed(0)), row(text("Oslo"), number(5, 0), text("us")), row(failed(0), failed(3), text("xx")), row(text("Nowhere"), number(4, 0), text("xx")), row(text("Late"), number(7, 0), text("xx")))
	for _, c := range []struct {
		key  string
		v    api.Value
		col  string
		want api.Value
		e    api.Errno
	}{
		{"city", text("Oslo"), "country", text("no"), 0}, {"city", text("Oslo"), "zip", number(2, 0), 0}, {"city", text("Oslo"), "city", text("Oslo"), 0}, {"zip", number(3, 0), "city", text("Bergen"), 0}, {"country", text("no"), "city", text("Oslo"), 0}, {"city", text("Late"), "country", text("xx"), 0},
		{"city", text("Paris"), "country", api.Value{}, 18}, {"city", text("Nowhere"), "country", api.Value{}, 18}, {"city", text("Nowhere"), "zip", number(4, 0), 0}, {"city", failed(0), "country", api.Value{}, 18}, {"zip", failed(3), "country", api.Value{}, 18}, {"country", text("xx"), "zip", api.Value{}, 18}, {"city", text("oslo"), "zip", api.Value{}, 18}, {"zip", text("2"), "city", api.Value{}, 18}, {"zip", number(20, 1), "city", api.Value{}, 18}, {"zip", api.Value{Kind: api.Number, D: api.Dec{N: 2}, N: 1}, "city", api.Value{}, 18}, {"zip", tableOf(nil), "city", api.Value{}, 18},
		{"town", text("Oslo"), "country", api.Value{}, 13}, {"city", text("Oslo"), "land", api.Value{}, 13}, {"town", text("Oslo"), "land", api.Value{}, 13}, {"", text("Paris"), "city", api.Value{}, 13}, {"city", text("Paris"), "", api.Value{}, 13}, {"City", text("Oslo"), "zip", api.Value{}, 13}, {"city", failed(0), "land", api.Value{}, 13},
	} {
		got, e := table.Find(x, c.key, c.v, c.col)
		if !same(got, c.want) || e != c.e {
			t.Errorf("Find(.., %q, %s, %q) = %s, %d", c.key, fields(c.v), c.col, fields(got), e)
		}
	}
}

// TestFindNeedsARightTable has tables that are not right, also with names that are no columns.
func TestFindNeedsARightTable(t *testing.T) {
	for _, x := range []api.Lookup{{}, lookup("", names("a"), row(text("x"))), lookup("t", names("a", "a"), row(text("x"), text("y"))), lookup("t", names("a"), row(text("x")), row(day(1))), lookup("t", names("a"), row(text("x")), row())} {
		for _, col := range names("a", "b") {
			if e := checkFind(t, x, col, text("x"), "a"); e != api.ErrArg {
				t.Errorf("Find of %s: %d", fieldsOfLookup(x), e)
			}
		}
	}
}

func TestFindOfSamples(t *testing.T) {
	s := &samples{state: 2}
	counts := map[api.Errno]int{}
	const tries = 20000
	for range tries {
		x := s.lookup()
		if s.below(5) == 0 {
			x = s.otherLookup(x)
		}
		counts[checkFind(t, x, s.name(x.Cols), s.value(x.Rows), s.name(x.Cols))]++
	}
	for _, e := range []api.Errno{api.OK, api.ErrArg, api.ErrName, api.ErrMiss} {
		if counts[e] < tries/20 {
			t.Errorf("%d results with the error %d", counts[e], e)
		}
	}
}
