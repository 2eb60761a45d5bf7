package oper_test

import (
	"fmt"
	"slices"
	"strconv"
	"strings"
	"sync"
	"testing"

	"concord/api"
	"concord/oper"
)

// The rules R1 to R5 of DOC.md and the promise P1, for all functions of the package.

// results are the results of all functions for a call.
type results struct {
	names      []string
	kinds      []int
	kind       int
	typesError api.Errno
	value      api.Value
	applyError api.Errno
	lazy       bool
	reads      string
}

// allResults calls each function. No call panics (P1).
func allResults(c call) results {
	r := results{names: oper.Names(), lazy: oper.Lazy(c.op), reads: oper.Reads(c.op, c.param)}
	r.kinds, r.kind, r.typesError = oper.Types(c.op, c.param, c.base, c.cols)
	r.value, r.applyError = apply(c)
	return r
}

// String returns all results.
func (r results) String() string {
	return fmt.Sprintf("%q %d %d %d %s %d %t %q", r.names, r.kinds, r.kind, r.typesError, fields(r.value), r.applyError, r.lazy, r.reads)
}

func TestErrorsComeAlone(t *testing.T) {
	some := 0
	for _, c := range someCalls(400, 20) {
		r := allResults(c)
		if r.typesError != api.OK && (len(r.kinds) > 0 || r.kind != 0 || r.applyError != r.typesError) {
			t.Fatalf("%s: %s", c, r)
		}
		if r.applyError != api.OK {
			some++
			if fields(r.value) != fields(api.Value{}) {
				t.Fatalf("%s: %s", c, r)
			}
		}
	}
	if some < 1000 {
		t.Errorf("%d errors", some)
	}
}

// withRoom returns a copy of a list with something behind its length.
func withRoom[T any](l []T, behind T) []T {
	return append(slices.Clone(l), behind)[:len(l)]
}

// roomIn returns copies of values whose lists have room behind their lengths, in which there is something.
func roomIn(l []api.Value) []api.Value {
	other := withRoom(l, text("behind"))
	for i, v := range l {
		other[i].Cols, other[i].Rows = withRoom(v.Cols, "behind"), roomInRows(v.Rows)
	}
	return other
}

func roomInRows(rows [][]api.Value) [][]api.Value {
	other := withRoom(rows, list(text("behind"), text("behind")))
	for i, cells := range rows {
		other[i] = roomIn(cells)
	}
	return other
}

// copied returns a copy of a call whose lists have room behind their lengths.
func (c call) copied() call {
	c.args, c.row, c.cols, c.base = roomIn(c.args), roomIn(c.row), withRoom(c.cols, api.Column{Name: "behind", Kind: 1}), withRoom(c.base, lookup("t", "[a,b]"))
	for i, t := range c.base {
		c.base[i].Cols, c.base[i].Rows = withRoom(t.Cols, "behind"), roomInRows(t.Rows)
	}
	return c
}

// behind returns values with all that is behind the lengths of their lists.
func behind(l []api.Value) []api.Value {
	all := slices.Clone(l[:cap(l)])
	for i, v := range all {
		all[i].Cols, all[i].Rows = v.Cols[:cap(v.Cols)], behindRows(v.Rows)
	}
	return all
}

func behindRows(rows [][]api.Value) [][]api.Value {
	all := slices.Clone(rows[:cap(rows)])
	for i, cells := range all {
		all[i] = behind(cells)
	}
	return all
}

// whole returns all fields of a call, with what is behind the lengths of its lists.
func (c call) whole() string {
	c.args, c.row, c.cols, c.base = behind(c.args), behind(c.row), c.cols[:cap(c.cols)], slices.Clone(c.base[:cap(c.base)])
	for i, t := range c.base {
		c.base[i].Cols, c.base[i].Rows = t.Cols[:cap(t.Cols)], behindRows(t.Rows)
	}
	return c.String()
}

// TestArgumentsAreNotModified also shows that they are not used behind their lengths.
func TestArgumentsAreNotModified(t *testing.T) {
	for _, c := range someCalls(150, 21) {
		d := c.copied()
		before := d.whole()
		if got, want := allResults(d), allResults(c); got.String() != want.String() {
			t.Fatalf("%s\nwith room behind the lists:\n%s", want, got)
		}
		if after := d.whole(); after != before {
			t.Fatalf("%s\nbecame\n%s", before, after)
		}
	}
}

// spoil changes all lists of results, also behind their lengths.
func (r results) spoil() {
	clear(r.names[:cap(r.names)])
	clear(r.kinds[:cap(r.kinds)])
	spoil(list(r.value))
}

func spoil(l []api.Value) {
	for _, v := range l[:cap(l)] {
		clear(v.Cols[:cap(v.Cols)])
		for _, cells := range v.Rows[:cap(v.Rows)] {
			spoil(cells)
		}
		clear(v.Rows[:cap(v.Rows)])
	}
	clear(l[:cap(l)])
}

func TestResultsAreNotShared(t *testing.T) {
	tables := 0
	for _, c := range someCalls(150, 22) {
		d := c.copied()
		before := d.whole()
		first, second := allResults(d), allResults(d)
		want := second.String()
		if len(first.value.Rows) > 0 {
			tables++
		}
		first.spoil()
		if after := d.whole(); after != before {
			t.Fatalf("%s\nbecame\n%s\nwith the results", before, after)
		}
		if got := second.String(); got != want {
			t.Fatalf("%s\nbecame\n%s\nwith the results of another call", want, got)
		}
		if got := allResults(d).String(); got != want {
			t.Fatalf("%s\nbecame\n%s in another call", want, got)
		}
	}
	if tables < 30 {
		t.Errorf("%d results have rows", tables)
	}
}

// TestCellsShareNothing has cells and arguments without elements in their lists, but with room there.
func TestCellsShareNothing(t *testing.T) {
	room := func(v api.Value) api.Value {
		v.Cols, v.Rows = make([]string, 0, 5), make([][]api.Value, 0, 5)
		return v
	}
	cell := room(text("x"))
	base := []api.Lookup{{Name: "t", Cols: names("a"), Rows: [][]api.Value{list(cell)}}}
	table := tableOf(names("a"), list(cell))
	for _, c := range []call{{op: "col", param: "a", cols: columns("a1"), row: list(cell)}, {op: "if", param: "text", args: list(truth(1), cell, cell)}, {op: "lookup", param: "t.a.a:text", args: list(text("x")), base: base}, {op: "first", param: "a:text", args: list(table)}} {
		v, e := apply(c)
		if e != api.OK || v.S != "x" || cap(v.Cols) > 0 || cap(v.Rows) > 0 {
			t.Errorf("Apply of %s = %s, %d, with room for %d and %d", c, fields(v), e, cap(v.Cols), cap(v.Rows))
		}
	}
}

// TestNilIsEmpty has lists that are empty and not nil.
func TestNilIsEmpty(t *testing.T) {
	for _, c := range someCalls(100, 23) {
		d := c
		d.args, d.base, d.cols, d.row = append([]api.Value{}, c.args...), append([]api.Lookup{}, c.base...), append([]api.Column{}, c.cols...), append([]api.Value{}, c.row...)
		for i, v := range d.args {
			d.args[i].Cols, d.args[i].Rows = append([]string{}, v.Cols...), append([][]api.Value{}, v.Rows...)
		}
		for i, v := range d.row {
			d.row[i].Cols, d.row[i].Rows = append([]string{}, v.Cols...), append([][]api.Value{}, v.Rows...)
		}
		if got, want := allResults(d).String(), allResults(c).String(); got != want {
			t.Fatalf("%s\nbecame\n%s\nwith empty lists", want, got)
		}
	}
}

// TestResultsDependOnArgumentsOnly repeats calls in another order, and in several goroutines.
func TestResultsDependOnArgumentsOnly(t *testing.T) {
	all := someCalls(60, 24)
	want := make([]string, len(all))
	for i, c := range all {
		want[i] = allResults(c).String()
	}
	var group sync.WaitGroup
	for range 4 {
		group.Go(func() {
			for i := len(all) - 1; i >= 0; i-- {
				if allResults(all[i]).String() != want[i] {
					t.Errorf("other results for %s", all[i])
				}
			}
		})
	}
	group.Wait()
}

// TestLargeParameters has parameters that are far longer than any form is.
func TestLargeParameters(t *testing.T) {
	const count = 1 << 18
	for _, part := range names("a", "0", "1", "9", ",", "a,", ".", "a.", ":", ":text", "#", "#1", ">=", ">=0", "-", "\\", `\d`, "'", "\x00", "é", "YYYY-MM-DD") {
		long := strings.Repeat(part, count)
		for _, op := range operators() {
			for _, param := range names(long, "a"+long, long+"1", "t.a.b"+long, long+":text", "a>="+long, `\d+#`+long, "a,"+long) {
				if _, _, e := oper.Types(op, param, someBase(), columns("a1")); e != api.ErrForm || oper.Reads(op, param) != "" {
					t.Fatalf("Types of %q with %d times %q: %d", op, count, part, e)
				}
			}
		}
		if _, _, e := oper.Types(long, "", nil, nil); e != api.ErrName || oper.Lazy(long) || oper.Reads(long, "t") != "" {
			t.Errorf("Types of an operator with %d times %q: %d", count, part, e)
		}
	}
}

// TestLargeArguments has far more columns, tables, rows and arguments than a row, a table or an operator can have.
func TestLargeArguments(t *testing.T) {
	const count = 1 << 17
	cols, row, base := make([]api.Column, count), make([]api.Value, count), make([]api.Lookup, count)
	rows := make([][]api.Value, count)
	for i := range count {
		cols[i], row[i], rows[i] = api.Column{Name: "c" + strconv.Itoa(i), Kind: api.Number}, number(i, 0), list(number(i, 0))
		base[i] = api.Lookup{Name: "t", Cols: names("a"), Rows: [][]api.Value{list(number(10, 1))}}
	}
	last := cols[count-1].Name
	checkApply(t, call{op: "col", param: last, cols: cols, row: row}, number(count-1, 0))
	checkApply(t, call{op: "col", param: last, cols: cols, row: row[1:]}, failed(1))
	checkApply(t, call{op: "col", param: "c", cols: cols, row: row}, failed(13))
	checkApply(t, call{op: "table", param: "t", base: base}, failed(13))
	checkApply(t, call{op: "lookup", param: "t.a.a:number", args: of("'x'"), base: base}, failed(13))
	checkApply(t, call{op: "table", param: "t", base: append(base, lookup("t", "[a;#1]"))}, of("[a;#1]")[0])
	long := text(strings.Repeat("x", count))
	for _, op := range operators() {
		for _, args := range [][]api.Value{row, list(long), list(long, long), list(long, long, long), list(tableOf(names("a"), rows...)), list(tableOf(names("a"), rows...), text("x"))} {
			if _, e := oper.Apply(op, map[string]string{"round": "1", "where": "a", "if": "text", "equal": "text"}[op], args, base, cols, row); e == api.OK {
				t.Errorf("Apply of %q to %d arguments that are too large", op, len(args))
			}
		}
	}
	checkApply(t, call{op: "if", param: "text", args: list(truth(1), text("x"), long)}, text("x"))
	checkApply(t, call{op: "if", param: "table", args: list(truth(0), tableOf(names("a"), rows...), of("[a]")[0])}, of("[a]")[0])
}

// TestDeepArguments has a table in a table in a table, and so on.
func TestDeepArguments(t *testing.T) {
	deep := tableOf(nil)
	for range 1 << 16 {
		deep = tableOf(names("a"), list(deep))
	}
	base := []api.Lookup{{Name: "t", Cols: names("a"), Rows: [][]api.Value{list(deep)}}}
	for _, c := range []struct {
		op, param string
		args      []api.Value
		e         api.Errno
	}{
		{"count", "", list(deep), 14}, {"where", "a", list(deep, text("x")), 14}, {"join", "a", list(of("[a]")[0], deep), 14}, {"table", "t", nil, 13}, {"lookup", "t.a.a:text", list(text("x")), 13}, {"col", "a", nil, 1}, {"if", "table", list(truth(1), deep, deep), 14}, {"length", "", list(deep), 14}, {"if", "text", list(truth(1), text("x"), deep), 0},
	} {
		if _, e := oper.Apply(c.op, c.param, c.args, base, columns("a5"), list(deep)); e != c.e {
			t.Errorf("Apply of %q to deep tables: %d, not %d", c.op, e, c.e)
		}
	}
}
