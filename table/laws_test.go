package table_test

import (
	"slices"
	"testing"

	"concord/api"
	"concord/table"
	"concord/value"
)

// P9.8: the consequences, without another implementation beside the package.

func TestWhereTwiceIsWhereOnce(t *testing.T) {
	s := &samples{state: 20}
	some := 0
	const tries = 8000
	for range tries {
		x := s.table()
		col, v := s.name(x.Cols), s.value(x.Rows)
		once, e := table.Where(x, col, v)
		if e != api.OK {
			continue
		}
		twice, e := table.Where(once, col, v)
		if e != api.OK || !value.Equal(once, twice) {
			t.Fatalf("Where(%s, %q, %s) = %s, and again %s, %d", value.Text(x), col, value.Text(v), value.Text(once), value.Text(twice), e)
		}
		if len(once.Rows) > 0 && len(once.Rows) < len(x.Rows) {
			some++
		}
	}
	if some < tries/20 {
		t.Errorf("%d tables of some rows", some)
	}
}

func TestPickOfAllColumns(t *testing.T) {
	s := &samples{state: 21}
	for range 4000 {
		x := s.table()
		if all, e := table.Pick(x, x.Cols); e != api.OK || !value.Equal(all, x) {
			t.Fatalf("Pick of all columns of %s: %s, %d", value.Text(x), value.Text(all), e)
		}
	}
}

// withOtherNames returns a table with other names for all columns but one.
func withOtherNames(x api.Value, col string) api.Value {
	x.Cols = slices.Clone(x.Cols)
	for i, name := range x.Cols {
		if name != col {
			x.Cols[i] = name + "_2"
		}
	}
	return x
}

// keyColumns returns the columns that are minimal keys.
func keyColumns(x api.Value) []string {
	var l []string
	for _, d := range table.Keys(x.Cols, x.Rows) {
		if len(d.From) == 1 && !slices.Contains(l, d.From[0]) {
			l = append(l, d.From[0])
		}
	}
	return l
}

// TestJoinWithItself has tables without equal rows, as a key can have two rows with the same cell if they are equal.
func TestJoinWithItself(t *testing.T) {
	s := &samples{state: 22}
	joined, smaller := 0, 0
	const tries = 6000
	for range tries {
		cols := s.columns(4)
		x := tableOf(cols, s.rows(len(cols), s.below(5))...)
		for i := range x.Rows {
			if len(cols) > 0 {
				k := s.below(len(cols))
				x.Rows[i][k] = element(s, []api.Value{failed(i), number(i, 0), x.Rows[i][k]})
			}
		}
		if hasEqualRows(x.Rows) {
			continue
		}
		for _, col := range keyColumns(x) {
			count := 0
			for _, cells := range x.Rows {
				if cells[slices.Index(cols, col)].Kind != api.None {
					count++
				}
			}
			got, e := table.Join(x, withOtherNames(x, col), col)
			if e != api.OK || len(got.Rows) != count {
				t.Fatalf("Join of %s with itself by %q: %s, %d", value.Text(x), col, value.Text(got), e)
			}
			joined++
			if count < len(x.Rows) {
				smaller++
			}
			checkJoinOfColumn(t, x, col, count)
		}
	}
	if joined < tries/4 || smaller < tries/20 {
		t.Errorf("%d tables were joined, %d have cells of the Kind None", joined, smaller)
	}
}

// checkJoinOfColumn joins the table of one column with itself, for which no other names are needed.
func checkJoinOfColumn(t *testing.T, x api.Value, col string, count int) {
	t.Helper()
	one, e := table.Pick(x, names(col))
	if e != api.OK {
		t.Fatalf("Pick(%s, %q): %d", value.Text(x), col, e)
	}
	if got, e := table.Join(one, one, col); e != api.OK || len(got.Rows) != count {
		t.Fatalf("Join of %s with itself: %s, %d", value.Text(one), value.Text(got), e)
	}
}

// hasEqualRows reports whether two rows are equal.
func hasEqualRows(rows [][]api.Value) bool {
	for i, x := range rows {
		for _, y := range rows[:i] {
			if slices.EqualFunc(x, y, value.Equal) {
				return true
			}
		}
	}
	return false
}

// TestWhatIsImpliedHolds has, of some tables, all dependencies that hold with at most two columns in From, and all that they imply between columns.
func TestWhatIsImpliedHolds(t *testing.T) {
	s := &samples{state: 23}
	implied, not := 0, 0
	for range 250 {
		x := s.table()
		x.Cols = x.Cols[:min(4, len(x.Cols))]
		for i := range x.Rows {
			x.Rows[i] = x.Rows[i][:len(x.Cols)]
		}
		var holding []api.Dep
		for _, from := range slices.Concat(partsOf(x.Cols, 2), [][]string{nil}) {
			for _, to := range x.Cols {
				if d := (api.Dep{From: from, To: to}); table.Holds(x.Cols, x.Rows, d) && s.below(3) > 0 {
					holding = append(holding, d)
				}
			}
		}
		for _, from := range partsOf(x.Cols, 4) {
			for _, to := range x.Cols {
				d := api.Dep{From: from, To: to}
				if !table.Implies(holding, d) {
					not++
					continue
				}
				if implied++; !table.Holds(x.Cols, x.Rows, d) {
					t.Fatalf("%s does not hold for %s", fieldsOfDeps([]api.Dep{d}), value.Text(x))
				}
			}
		}
	}
	if implied < 1000 || not < 200 {
		t.Errorf("%d dependencies are implied, %d are not", implied, not)
	}
}

// partsOf returns the sets of one to so many columns.
func partsOf(cols []string, most int) [][]string {
	var l [][]string
	for bits := 1; bits < 1<<len(cols); bits++ {
		var part []string
		for i, name := range cols {
			if bits>>i&1 == 1 {
				part = append(part, name)
			}
		}
		if len(part) <= most {
			l = append(l, part)
		}
	}
	return l
}

func TestDependenciesOfKeysHold(t *testing.T) {
	s := &samples{state: 24}
	count := 0
	for range 3000 {
		x := s.table()
		l := table.Keys(x.Cols, x.Rows)
		for _, d := range l {
			if !table.Holds(x.Cols, x.Rows, d) || !table.Implies(l, d) || slices.Contains(d.From, d.To) {
				t.Fatalf("%s is returned for %s", fieldsOfDeps([]api.Dep{d}), value.Text(x))
			}
			if len(table.Closure(l, d.From)) != len(x.Cols) {
				t.Fatalf("the key %q of %s does not imply all columns", d.From, value.Text(x))
			}
			count++
		}
	}
	if count < 3000 {
		t.Errorf("%d dependencies", count)
	}
}

// TestClosureOfClosure also shows that a closure has all of what it is from.
func TestClosureOfClosure(t *testing.T) {
	s := &samples{state: 25}
	cols := letters("abcdef")
	for range 4000 {
		var l []api.Dep
		for range s.below(8) {
			l = append(l, s.dep(cols))
		}
		d := s.dep(cols)
		once := table.Closure(l, d.From)
		if !slices.Equal(table.Closure(l, once), once) || !slices.IsSorted(once) || len(slices.Compact(slices.Clone(once))) != len(once) {
			t.Fatalf("Closure(%s, %q) = %q", fieldsOfDeps(l), d.From, once)
		}
		for _, name := range slices.Concat(d.From, once) {
			if !slices.Contains(once, name) || !table.Implies(l, api.Dep{From: d.From, To: name}) {
				t.Fatalf("Closure(%s, %q) = %q and %q", fieldsOfDeps(l), d.From, once, name)
			}
		}
	}
}

// setAll sets tables one after the other, and returns all of them.
func setAll(t *testing.T, l []api.Lookup) []api.Lookup {
	t.Helper()
	var all []api.Lookup
	for _, x := range l {
		var e api.Errno
		if all, e = table.Set(all, x); e != api.OK {
			t.Fatalf("Set of %s: %d", fieldsOfLookup(x), e)
		}
	}
	return all
}

func TestOrderOfSetDoesNotMatter(t *testing.T) {
	s := &samples{state: 26}
	for range 1500 {
		var l []api.Lookup
		for _, name := range names("t", "s", "T", "t1", "t_", "a")[:s.below(7)] {
			x := s.lookup()
			for !table.Right(x) {
				x = s.lookup()
			}
			x.Name = name
			l = append(l, x)
		}
		want := setAll(t, l)
		if len(want) != len(l) || !slices.IsSortedFunc(want, func(x, y api.Lookup) int { return map[bool]int{true: -1, false: 1}[x.Name < y.Name] }) {
			t.Fatalf("%s became %s", fieldsOfLookups(l), fieldsOfLookups(want))
		}
		other := slices.Clone(l)
		for i := range other {
			k := i + s.below(len(other)-i)
			other[i], other[k] = other[k], other[i]
		}
		if got := setAll(t, other); fieldsOfLookups(got) != fieldsOfLookups(want) {
			t.Fatalf("%s became %s", fieldsOfLookups(other), fieldsOfLookups(got))
		}
	}
}

// TestFindAmongOthers compares Find with Where and Pick.
func TestFindAmongOthers(t *testing.T) {
	s := &samples{state: 27}
	found := 0
	const tries = 8000
	for range tries {
		x := s.lookup()
		key, v, col := s.name(x.Cols), s.value(x.Rows), s.name(x.Cols)
		got, e := table.Find(x, key, v, col)
		if e != api.OK {
			continue
		}
		found++
		rows, _ := table.Where(tableOf(x.Cols, x.Rows...), key, v)
		cells, e := table.Pick(rows, names(col))
		if e != api.OK || len(cells.Rows) == 0 || !value.Equal(cells.Rows[0][0], got) {
			t.Fatalf("Find(%s, %q, %s, %q) = %s, among %s", fieldsOfLookup(x), key, value.Text(v), col, value.Text(got), value.Text(cells))
		}
	}
	if found < tries/10 {
		t.Errorf("%d values were found", found)
	}
}

// TestDiffOfSetTables has the same table with one changed cell.
func TestDiffOfSetTables(t *testing.T) {
	s := &samples{state: 28}
	for range 3000 {
		x := s.lookup()
		if l := table.Diff(x, x); len(l) != 0 {
			t.Fatalf("Diff of %s and itself: %q", fieldsOfLookup(x), l)
		}
		if len(x.Cols) == 0 || len(x.Rows) == 0 {
			continue
		}
		other := lookup(x.Name, x.Cols, slices.Clone(x.Rows)...)
		i, k := s.below(len(x.Rows)), s.below(len(x.Cols))
		other.Rows[i] = slices.Clone(x.Rows[i])
		other.Rows[i][k] = text("another one")
		if l := table.Diff(x, other); !slices.Equal(l, names(x.Cols[k])) {
			t.Fatalf("Diff of %s and %s: %q", fieldsOfLookup(x), fieldsOfLookup(other), l)
		}
	}
}
