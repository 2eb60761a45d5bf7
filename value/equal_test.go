package value_test

import (
	"slices"
	"testing"

	"concord/api"
	"concord/value"
)

// P6.2: Equal, Copy.

// checkEqual compares Equal of two values with what is wanted, in both directions.
func checkEqual(t *testing.T, a, b api.Value, want bool) {
	t.Helper()
	if value.Equal(a, b) != want || value.Equal(b, a) != want {
		t.Fatalf("Equal(%s, %s) is not %t", fields(a), fields(b), want)
	}
}

func TestEachFieldIsCompared(t *testing.T) {
	base := api.Value{Kind: 5, S: "s", D: api.Dec{N: 1, Scale: 2}, N: 3, Cols: names("a", "b"), Rows: [][]api.Value{row(text("x"), text("y")), row(text("z"))}}
	checkEqual(t, base, value.Copy(base), true)
	for _, change := range []func(v *api.Value){
		func(v *api.Value) { v.Kind = 4 },
		func(v *api.Value) { v.S = "t" },
		func(v *api.Value) { v.S = "" },
		func(v *api.Value) { v.D.N = 2 },
		func(v *api.Value) { v.D.Scale = 1 },
		func(v *api.Value) { v.N = 4 },
		func(v *api.Value) { v.Cols = nil },
		func(v *api.Value) { v.Cols = names("a") },
		func(v *api.Value) { v.Cols = names("b", "a") },
		func(v *api.Value) { v.Cols = names("a", "b", "c") },
		func(v *api.Value) { v.Cols = names("a", "B") },
		func(v *api.Value) { v.Rows = nil },
		func(v *api.Value) { v.Rows = v.Rows[:1] },
		func(v *api.Value) { v.Rows = append(v.Rows, nil) },
		func(v *api.Value) { v.Rows = slices.Insert(v.Rows, 0, nil) },
		func(v *api.Value) { v.Rows[0], v.Rows[1] = v.Rows[1], v.Rows[0] },
		func(v *api.Value) { v.Rows[0] = row(text("y"), text("x")) },
		func(v *api.Value) { v.Rows[0] = append(v.Rows[0], failed(0)) },
		func(v *api.Value) { v.Rows[1] = nil },
		func(v *api.Value) { v.Rows[1][0].S = "Z" },
		func(v *api.Value) { v.Rows[1][0].N = 1 },
		func(v *api.Value) { v.Rows[1][0].Kind = 6 },
		func(v *api.Value) { v.Rows[0][1].D.N = 1 },
		func(v *api.Value) { v.Rows[0][1].D.Scale = 1 },
		func(v *api.Value) { v.Rows[0][1].Cols = names("") },
		func(v *api.Value) { v.Rows[0][1].Rows = [][]api.Value{nil} },
	} {
		changed := value.Copy(base)
		change(&changed)
		checkEqual(t, base, changed, false)
		checkEqual(t, changed, value.Copy(changed), true)
	}
}

// TestDecimalsAreNotConverted has decimals with the same value.
func TestDecimalsAreNotConverted(t *testing.T) {
	checkEqual(t, number(10, 1), number(1, 0), false)
	checkEqual(t, number(0, 1), number(0, 0), false)
}

func TestNestedTablesAreCompared(t *testing.T) {
	inner := table(names("a"), row(table(names("b"), row(text("x")))))
	other := value.Copy(inner)
	checkEqual(t, inner, other, true)
	other.Rows[0][0].Rows[0][0].S = "y"
	checkEqual(t, inner, other, false)
}

func TestEqualOfSamples(t *testing.T) {
	s := &samples{state: 2}
	equal := 0
	for range 60000 {
		a := s.value()
		if s.below(3) == 0 {
			a = s.change(a)
		}
		b := value.Copy(a)
		for range s.below(3) {
			b = s.change(b)
		}
		want := fields(a) == fields(b)
		checkEqual(t, a, b, want)
		if want {
			equal++
		}
	}
	if equal < 15000 || equal > 45000 {
		t.Errorf("%d pairs are equal", equal)
	}
}

func TestEqualOfWrongValues(t *testing.T) {
	all := append(wrongValues(), rightAtTheEdge()...)
	known := make([]string, len(all))
	for i, v := range all {
		known[i] = fields(v)
	}
	for i, a := range all {
		for k, b := range all {
			if value.Equal(a, b) != (known[i] == known[k]) {
				t.Fatalf("Equal(%s, %s) = %t", known[i], known[k], value.Equal(a, b))
			}
		}
	}
}

func TestCopyIsEqual(t *testing.T) {
	s := &samples{state: 3}
	all := append(wrongValues(), rightAtTheEdge()...)
	for range 3000 {
		all = append(all, s.value(), s.change(s.table()))
	}
	for _, v := range all {
		if got := fields(value.Copy(v)); got != fields(v) {
			t.Fatalf("Copy(%s) = %s", fields(v), got)
		}
	}
}

// spoil changes all of the lists in a value, also behind their lengths.
func spoil(v api.Value) {
	for _, row := range v.Rows[:cap(v.Rows)] {
		for _, cell := range row[:cap(row)] {
			spoil(cell)
		}
		clear(row[:cap(row)])
	}
	clear(v.Cols[:cap(v.Cols)])
	clear(v.Rows[:cap(v.Rows)])
}

// withRoom returns a copy of a value whose lists have room behind their lengths, in which there is something.
func withRoom(v api.Value) api.Value {
	v.Cols = append(slices.Clone(v.Cols), "behind")[:len(v.Cols)]
	rows := make([][]api.Value, 0, len(v.Rows)+1)
	for _, cells := range v.Rows {
		line := make([]api.Value, 0, len(cells)+1)
		for _, cell := range cells {
			line = append(line, withRoom(cell))
		}
		rows = append(rows, append(line, text("behind"))[:len(cells)])
	}
	v.Rows = append(rows, row(text("behind")))[:len(v.Rows)]
	return v
}

func TestCopySharesNoMemory(t *testing.T) {
	s := &samples{state: 4}
	all := append(wrongTables(), table(names("a"), row(table(names("b"), row(text("x"))))))
	for range 3000 {
		all = append(all, s.table(), s.change(s.table()))
	}
	for _, v := range all {
		original := withRoom(v)
		room := original.Rows[:cap(original.Rows)]
		known, knownRoom := fields(original), fields(table(original.Cols[:cap(original.Cols)], room...))
		first, second := value.Copy(original), value.Copy(original)
		spoil(first)
		if fields(original) != known || fields(table(original.Cols[:cap(original.Cols)], room...)) != knownRoom {
			t.Fatalf("%s has become %s with its copy", known, fields(original))
		}
		spoil(original)
		if fields(second) != known {
			t.Fatalf("the copy %s has become %s with the original", known, fields(second))
		}
	}
}

// TestListsOfCopiesAreSeparate appends to each list of a copy.
func TestListsOfCopiesAreSeparate(t *testing.T) {
	v := table(names("a", "b"), manyRows(5)...)
	v.Rows = append(v.Rows, row(), row(text("x"), text("y")))
	checkSeparateRows(t, value.Copy(v))
}

// checkSeparateRows reports rows of a value that change with others.
func checkSeparateRows(t *testing.T, v api.Value) {
	t.Helper()
	known := fields(v)
	for _, row := range v.Rows {
		clear(row[len(row):cap(row)])
		_ = append(row, text("more"))
	}
	_ = append(v.Rows, row(text("more")))
	if fields(v) != known {
		t.Errorf("%s has become %s", known, fields(v))
	}
}
