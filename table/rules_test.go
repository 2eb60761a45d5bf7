package table_test

import (
	"fmt"
	"slices"
	"strconv"
	"strings"
	"sync"
	"testing"

	"concord/api"
	"concord/table"
)

// The rules R1 to R5 of DOC.md and the promise P1, for all functions of the package.

// arguments are arguments for all functions.
type arguments struct {
	t, u  api.Lookup
	a, b  api.Value
	col   string
	key   string
	v     api.Value
	cols  []string
	least api.Dec
	deps  []api.Dep
	d     api.Dep
	set   []api.Lookup
}

// someArguments returns arguments of all forms.
func someArguments(count int) []arguments {
	s := &samples{state: 30}
	var l []arguments
	for range count {
		x := arguments{t: s.lookup(), u: s.lookup(), a: s.table(), b: s.table(), least: api.Dec{N: s.below(10) - 9}}
		if s.below(3) == 0 {
			x.t, x.u = s.otherLookup(x.t), s.otherLookup(x.t)
		}
		if s.below(3) == 0 {
			x.a, x.b = s.otherTable(x.a), s.otherTable(x.b)
		}
		if s.below(2) == 0 && len(x.a.Cols) > 0 {
			x.b.Cols = names(element(s, x.a.Cols), "b_1", "b_2", "b_3")[:min(4, len(x.b.Cols))]
		}
		x.col, x.key, x.v = s.name(x.a.Cols), s.name(x.t.Cols), s.value(x.a.Rows)
		if s.below(2) == 0 {
			x.col, x.v = s.name(x.t.Cols), s.value(x.t.Rows)
		}
		x.cols = append(s.columns(2), s.name(x.a.Cols))
		if s.below(2) == 0 {
			x.cols = slices.Clone(x.a.Cols)
		}
		for range s.below(6) {
			x.deps = append(x.deps, s.dep(x.a.Cols))
			x.set = append(x.set, s.lookup())
		}
		x.d = s.dep(x.a.Cols)
		l = append(l, x)
	}
	return l
}

// withRoomIn returns a copy of a list with something behind its length.
func withRoomIn[T any](l []T, behind T) []T {
	return append(slices.Clone(l), behind)[:len(l)]
}

// withRoom returns a copy of rows whose lists have room behind their lengths, in which there is something.
func withRoom(rows [][]api.Value) [][]api.Value {
	var l [][]api.Value
	for _, cells := range rows {
		other := slices.Clone(cells)
		for i, cell := range other {
			other[i].Cols, other[i].Rows = withRoomIn(cell.Cols, "behind"), withRoom(cell.Rows)
		}
		l = append(l, withRoomIn(other, text("behind")))
	}
	return withRoomIn(l, row(text("behind"), text("behind")))
}

// copied returns a copy of all arguments whose lists have room behind their lengths.
func (x arguments) copied() arguments {
	dep := func(d api.Dep) api.Dep {
		d.From = withRoomIn(d.From, "behind")
		return d
	}
	table := func(t api.Lookup) api.Lookup {
		t.Cols, t.Rows = withRoomIn(t.Cols, "behind"), withRoom(t.Rows)
		return t
	}
	x.t, x.u, x.d, x.cols = table(x.t), table(x.u), dep(x.d), withRoomIn(x.cols, "behind")
	x.a.Cols, x.a.Rows = withRoomIn(x.a.Cols, "behind"), withRoom(x.a.Rows)
	x.b.Cols, x.b.Rows = withRoomIn(x.b.Cols, "behind"), withRoom(x.b.Rows)
	x.v.Cols, x.v.Rows = withRoomIn(x.v.Cols, "behind"), withRoom(x.v.Rows)
	x.deps, x.set = withRoomIn(x.deps, api.Dep{To: "behind"}), withRoomIn(x.set, lookup("behind", nil))
	for i := range x.deps {
		x.deps[i] = dep(x.deps[i])
	}
	for i := range x.set {
		x.set[i] = table(x.set[i])
	}
	return x
}

// withBehind returns rows as far as there is room for them.
func withBehind(rows [][]api.Value) [][]api.Value {
	var l [][]api.Value
	for _, cells := range rows[:cap(rows)] {
		other := slices.Clone(cells[:cap(cells)])
		for i, cell := range other {
			other[i].Cols, other[i].Rows = cell.Cols[:cap(cell.Cols)], withBehind(cell.Rows)
		}
		l = append(l, other)
	}
	return l
}

// whole returns all arguments as a text, and what is behind the lengths of their lists.
func (x arguments) whole() string {
	table := func(t api.Lookup) string {
		return fieldsOfLookup(lookup(t.Name, t.Cols[:cap(t.Cols)], withBehind(t.Rows)...))
	}
	value := func(v api.Value) string {
		v.Cols, v.Rows = v.Cols[:cap(v.Cols)], withBehind(v.Rows)
		return fields(v)
	}
	var parts []string
	for _, d := range append(slices.Clone(x.deps[:cap(x.deps)]), x.d) {
		parts = append(parts, fmt.Sprintf("%q %q", d.From[:cap(d.From)], d.To))
	}
	for _, t := range append(slices.Clone(x.set[:cap(x.set)]), x.t, x.u) {
		parts = append(parts, table(t))
	}
	return strings.Join(append(parts, value(x.a), value(x.b), value(x.v), fmt.Sprintf("%q %q %q %v", x.cols[:cap(x.cols)], x.col, x.key, x.least)), "\n")
}

// results are the results of all calls.
type results struct {
	truths []bool
	values []api.Value
	errors []api.Errno // of the values, and of the set at last
	lists  [][]string
	keys   []api.Dep
	set    []api.Lookup
}

// allResults calls each function. No call panics (P1).
func allResults(x arguments) results {
	r := results{truths: []bool{table.Right(x.t), table.Right(x.u), table.Holds(x.a.Cols, x.a.Rows, x.d), table.Holds(x.t.Cols, x.t.Rows, x.d), table.Implies(x.deps, x.d)}}
	keep := func(v api.Value, e api.Errno) {
		r.values, r.errors = append(r.values, v), append(r.errors, e)
	}
	keep(table.Find(x.t, x.key, x.v, x.col))
	keep(table.Find(x.t, x.key, x.v, x.key))
	keep(table.Where(x.a, x.col, x.v))
	keep(table.Join(x.a, x.b, x.col))
	keep(table.Pick(x.a, x.cols))
	keep(table.Sum(x.a, x.col, x.least))
	r.lists = [][]string{table.Closure(x.deps, x.d.From), table.Diff(x.t, x.u), table.Diff(x.t, x.t)}
	r.keys = table.Keys(x.a.Cols, x.a.Rows)
	set, e := table.Set(x.set, x.t)
	r.set, r.errors = set, append(r.errors, e)
	return r
}

// text returns all results as a text.
func (r results) text() string {
	parts := []string{fmt.Sprint(r.truths, r.errors), fmt.Sprintf("%q", r.lists), fieldsOfDeps(r.keys), fieldsOfLookups(r.set)}
	for _, v := range r.values {
		parts = append(parts, fields(v))
	}
	return strings.Join(parts, "\n")
}

func TestErrorsComeAlone(t *testing.T) {
	var counts [7]int
	all := someArguments(4000)
	for _, x := range all {
		r := allResults(x)
		for i, v := range r.values {
			if r.errors[i] != api.OK && fields(v) != fields(api.Value{}) {
				t.Fatalf("the result number %d is %s, with the error %d", i, fields(v), r.errors[i])
			}
		}
		if r.errors[6] != api.OK && len(r.set) > 0 {
			t.Fatalf("Set = %s, with the error %d", fieldsOfLookups(r.set), r.errors[6])
		}
		for i, e := range r.errors {
			if e == api.OK {
				counts[i]++
			}
		}
	}
	for i, count := range counts {
		if count < len(all)/50 || count > len(all)*9/10 {
			t.Errorf("%d of %d results of number %d are without an error", count, len(all), i)
		}
	}
}

// TestArgumentsAreNotModified also shows that they are not used behind their length.
func TestArgumentsAreNotModified(t *testing.T) {
	for _, x := range someArguments(4000) {
		y := x.copied()
		before := y.whole()
		want := allResults(x).text()
		if got := allResults(y).text(); got != want {
			t.Fatalf("%s\nwith room behind the lists:\n%s", want, got)
		}
		if after := y.whole(); after != before {
			t.Fatalf("%s\nbecame\n%s", before, after)
		}
	}
}

// spoilRows changes all lists of rows, also behind their lengths.
func spoilRows(rows [][]api.Value) {
	for _, cells := range rows[:cap(rows)] {
		for _, cell := range cells[:cap(cells)] {
			spoilRows(cell.Rows)
			clear(cell.Cols[:cap(cell.Cols)])
		}
		clear(cells[:cap(cells)])
	}
	clear(rows[:cap(rows)])
}

// spoil changes all lists of results, also behind their lengths.
func (r results) spoil() {
	for _, v := range r.values {
		spoilRows(v.Rows)
		clear(v.Cols[:cap(v.Cols)])
	}
	for _, l := range r.lists {
		clear(l[:cap(l)])
	}
	for _, d := range r.keys[:cap(r.keys)] {
		clear(d.From[:cap(d.From)])
	}
	for _, t := range r.set[:cap(r.set)] {
		spoilRows(t.Rows)
		clear(t.Cols[:cap(t.Cols)])
	}
	clear(r.keys[:cap(r.keys)])
	clear(r.set[:cap(r.set)])
}

func TestResultsAreNotShared(t *testing.T) {
	for _, x := range someArguments(3000) {
		y := x.copied()
		before := y.whole()
		first, second := allResults(y), allResults(y)
		want := second.text()
		first.spoil()
		if after := y.whole(); after != before {
			t.Fatalf("%s\nbecame\n%s\nwith the results", before, after)
		}
		if got := second.text(); got != want {
			t.Fatalf("%s\nbecame\n%s\nwith the results of another call", want, got)
		}
		if got := allResults(y).text(); got != want {
			t.Fatalf("%s\nbecame\n%s in another call", want, got)
		}
	}
}

// appendToRows appends to each list of rows.
func appendToRows(rows [][]api.Value) {
	for _, cells := range rows {
		for _, cell := range cells {
			_ = append(cell.Cols, "more")
			appendToRows(cell.Rows)
		}
		_ = append(cells, text("more"))
	}
	_ = append(rows, row(text("more")))
}

// TestListsOfResultsAreSeparate appends to each list of the results.
func TestListsOfResultsAreSeparate(t *testing.T) {
	for _, x := range someArguments(2000) {
		r := allResults(x.copied())
		want := r.text()
		for _, v := range r.values {
			_ = append(v.Cols, "more")
			appendToRows(v.Rows)
		}
		for _, d := range r.keys {
			_ = append(d.From, "more")
		}
		for _, t := range r.set {
			_ = append(t.Cols, "more")
			appendToRows(t.Rows)
		}
		if got := r.text(); got != want {
			t.Fatalf("%s\nbecame\n%s", want, got)
		}
		for i, d := range r.keys {
			if len(d.From) > 0 {
				d.From[0] = "changed"
			}
			for _, other := range r.keys[i+1:] {
				if slices.Contains(other.From, "changed") {
					t.Fatal("two dependencies share their From")
				}
			}
		}
	}
}

// withEmptyLists returns rows in which each list without elements is not nil, and has room.
func withEmptyLists(rows [][]api.Value) [][]api.Value {
	l := make([][]api.Value, 0, len(rows)+1)
	for _, cells := range rows {
		other := append(make([]api.Value, 0, len(cells)+1), cells...)
		for i, cell := range other {
			other[i].Cols, other[i].Rows = append(make([]string, 0, 1), cell.Cols...), withEmptyLists(cell.Rows)
		}
		l = append(l, other)
	}
	return l
}

func TestNilIsEmpty(t *testing.T) {
	for _, x := range someArguments(3000) {
		y := x
		if len(x.deps) == 0 {
			y.deps, y.set = []api.Dep{}, []api.Lookup{}
		}
		y.a.Cols, y.b.Cols, y.t.Cols, y.u.Cols = append([]string{}, x.a.Cols...), append([]string{}, x.b.Cols...), append([]string{}, x.t.Cols...), append([]string{}, x.u.Cols...)
		y.a.Rows, y.b.Rows, y.t.Rows, y.u.Rows = withEmptyLists(x.a.Rows), withEmptyLists(x.b.Rows), withEmptyLists(x.t.Rows), withEmptyLists(x.u.Rows)
		y.v.Cols, y.v.Rows = append([]string{}, x.v.Cols...), withEmptyLists(x.v.Rows)
		y.d.From, y.cols = append([]string{}, x.d.From...), append([]string{}, x.cols...)
		if got, want := allResults(y).text(), allResults(x).text(); got != want {
			t.Fatalf("%s\nbecame\n%s\nwith empty lists", want, got)
		}
	}
	empty := api.Lookup{Cols: []string{}, Rows: [][]api.Value{}}
	if len(table.Diff(empty, api.Lookup{})) != 0 || table.Right(empty) || len(table.Closure([]api.Dep{}, []string{})) != 0 || len(table.Keys([]string{}, nil)) != 0 || len(table.Keys(nil, [][]api.Value{{}, nil})) != 0 {
		t.Error("empty lists")
	}
}

// TestResultsDependOnArgumentsOnly repeats calls in another order, and in several goroutines.
func TestResultsDependOnArgumentsOnly(t *testing.T) {
	all := someArguments(1500)
	want := make([]string, len(all))
	for i, x := range all {
		want[i] = allResults(x).text()
	}
	var group sync.WaitGroup
	for range 4 {
		group.Go(func() {
			for i := len(all) - 1; i >= 0; i-- {
				if allResults(all[i]).text() != want[i] {
					t.Errorf("other results for %s", all[i].whole())
				}
			}
		})
	}
	group.Wait()
}

// TestLargeArguments has far more columns, rows and names than a table can have. Calls that take quadratic time would not come to an end here.
func TestLargeArguments(t *testing.T) {
	const count = 1 << 17
	cols, cells := make([]string, count), make([]api.Value, count)
	rows := make([][]api.Value, count)
	for i := range count {
		cols[i], cells[i], rows[i] = strconv.Itoa(i), number(i, 0), row(number(i, 0), number(i/2, 0), api.Value{Kind: 9, N: i})
	}
	abc := letters("abc")
	last := api.Dep{From: slices.Concat(cols, cols), To: cols[count-1]}
	if !table.Holds(cols, [][]api.Value{cells, cells}, last) || table.Holds(cols, [][]api.Value{cells, cells[1:]}, last) || table.Holds(cols[1:], nil, last) {
		t.Error("Holds of many columns")
	}
	if !table.Holds(abc, rows, dep("a", "b")) || table.Holds(abc, rows, dep("b", "a")) || !table.Holds(abc, rows, dep("c", "a")) || table.Holds(abc, append(rows, nil), dep("a", "b")) {
		t.Error("Holds of many rows")
	}
	if !table.Holds(abc, rows, api.Dep{From: slices.Repeat(abc[1:2], count), To: "b"}) || table.Holds(abc, rows, api.Dep{From: append(slices.Repeat(abc[1:2], count), "d"), To: "b"}) {
		t.Error("Holds of one column many times")
	}
	if l := table.Keys(cols, [][]api.Value{cells, cells}); len(l) != count || l[count-1].To != cols[count-1] || len(l[count-1].From) != 0 {
		t.Errorf("Keys of many columns: %d", len(l))
	}
	if l := table.Keys(abc, rows); fieldsOfDeps(l) != fieldsOfDeps([]api.Dep{dep("a", "b"), dep("a", "c"), dep("c", "a"), dep("c", "b")}) {
		t.Errorf("Keys of many rows: %s", fieldsOfDeps(l))
	}
	x, y := lookup("t", cols, cells), lookup("t", abc, rows...)
	z := lookup("t", abc, slices.Concat(rows[:count-1], [][]api.Value{row(text("x"))})...)
	if table.Right(x) || table.Right(y) || len(table.Diff(x, y)) != count+3 || len(table.Diff(x, x)) != 0 || !slices.Equal(table.Diff(y, z), abc) || len(table.Closure(nil, last.From)) != count || !table.Implies(nil, last) {
		t.Error("Diff, Closure or Implies of many columns or rows")
	}
	a := tableOf(cols, cells)
	small := ofTable("[a,b;#1,#2]")
	for _, e := range []api.Errno{second(table.Where(a, "0", cells[0])), second(table.Pick(a, cols)), second(table.Pick(small, cols)) + 1, second(table.Join(a, a, "0")), second(table.Join(small, a, "0")), second(table.Sum(a, "0", api.Dec{})), second(table.Sum(tableOf(abc, rows...), "a", api.Dec{}))} {
		if e != api.ErrType {
			t.Errorf("error %d", e)
		}
	}
	many := slices.Repeat([]api.Lookup{lookup("u", abc)}, count)
	if l, e := table.Set(many, lookup("u", abc)); e != api.OK || len(l) != 1 {
		t.Errorf("Set: %d, %d", len(l), e)
	}
	if _, e := table.Set(many, lookup("t", abc)); e != api.ErrMany {
		t.Errorf("Set: %d", e)
	}
}

// second returns the error of a call.
func second(_ api.Value, e api.Errno) api.Errno { return e }

// TestDeepCells has a table in a table in a table, and so on, as a cell.
func TestDeepCells(t *testing.T) {
	deep := func(v api.Value) api.Value {
		for range 1 << 16 {
			v = tableOf(nil, row(v))
		}
		return v
	}
	x, y := deep(text("x")), deep(text("y"))
	ab := names("a", "b")
	if table.Holds(ab, [][]api.Value{row(x, text("x")), row(x, text("y"))}, dep("a", "b")) || !table.Holds(ab, [][]api.Value{row(x, text("x")), row(y, text("y"))}, dep("a", "b")) {
		t.Error("Holds of deep cells")
	}
	if l := table.Keys(ab, [][]api.Value{row(x, x), row(x, y), row(y, x), row(y, y)}); len(l) != 0 {
		t.Errorf("Keys of deep cells: %s", fieldsOfDeps(l))
	}
	a, b := lookup("t", ab, row(x, y)), lookup("t", ab, row(deep(text("x")), x))
	if l := table.Diff(a, b); !slices.Equal(l, names("b")) || table.Right(a) {
		t.Errorf("Diff of deep cells: %q", l)
	}
	if l, e := table.Set([]api.Lookup{a}, lookup("u", ab)); e != api.OK || len(table.Diff(l[0], a)) != 0 {
		t.Errorf("Set with deep cells: %d", e)
	}
	if _, e := table.Where(tableOf(names("a"), row(text("x"))), "a", x); e != api.OK {
		t.Errorf("Where of a deep value: %d", e)
	}
}
