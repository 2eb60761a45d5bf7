package value_test

import (
	"fmt"
	"runtime"
	"slices"
	"strings"
	"sync"
	"testing"

	"concord/api"
	"concord/value"
)

// The rules R1 to R5 of DOC.md and the promise P1, for all functions of the package.

// arguments are arguments for all functions.
type arguments struct {
	a, b    api.Value
	l       []api.Value
	s       string
	columns []api.Column
	e       api.Errno
}

// someArguments returns arguments of all forms: values that are right and others, texts and others.
func someArguments() []arguments {
	s := &samples{state: 14}
	wrong := wrongValues()
	var all []arguments
	for i := range 3000 {
		x := arguments{a: s.value(), b: s.value(), l: s.row(), e: api.Errno(s.below(102) - 1)}
		for _, v := range x.l {
			x.columns = append(x.columns, api.Column{Name: "a", Kind: v.Kind})
		}
		switch s.below(4) {
		case 0:
			x.s = value.Text(x.a)
		case 1:
			x.s = value.RowText(x.l)
		case 2:
			x.s = s.changeString(value.Text(x.a))
		default:
			x.s = s.changeString(value.RowText(x.l))
		}
		switch s.below(5) {
		case 0:
			x.a = wrong[i%len(wrong)]
		case 1:
			x.a = s.change(x.b)
		case 2:
			x.l = s.changeList(x.l)
		case 3:
			x.b = value.Copy(x.a)
		}
		all = append(all, x)
	}
	return all
}

// everything returns the results of all calls as a text.
func everything(x arguments) string {
	v, ok := value.Read(x.s)
	l, rowOk := value.ReadRow(x.s)
	return fmt.Sprint(value.Right(x.a), value.Right(x.b), fields(value.Fail(x.e)), value.Error(x.a), value.Equal(x.a, x.b), value.Less(x.a, x.b), value.Less(x.b, x.a), value.Text(x.a), value.Text(x.b),
		fields(v), ok, value.RowText(x.l), allFields(l), rowOk, value.Fits(x.columns, x.l), fields(value.Copy(x.a)), fields(value.Copy(x.b)))
}

// TestNoResultIsZero also shows that no call panics (P1).
func TestNoResultIsZero(t *testing.T) {
	read, readRows := 0, 0
	all := someArguments()
	for _, x := range all {
		v, ok := value.Read(x.s)
		if !ok && fields(v) != fields(api.Value{}) {
			t.Fatalf("Read(%q) = %s, false", x.s, fields(v))
		}
		l, rowOk := value.ReadRow(x.s)
		if !rowOk && len(l) != 0 {
			t.Fatalf("ReadRow(%q) = %s, false", x.s, allFields(l))
		}
		if ok {
			read++
		}
		if rowOk {
			readRows++
		}
		everything(x)
	}
	for _, count := range []int{read, readRows} {
		if count < 300 || count > len(all)-300 {
			t.Errorf("%d of %d calls had a result", count, len(all))
		}
	}
}

// withEmptyLists returns a value in which each list without elements is not nil.
func withEmptyLists(v api.Value) api.Value {
	v.Cols = append([]string{}, v.Cols...)
	rows := make([][]api.Value, 0, len(v.Rows))
	for _, row := range v.Rows {
		cells := make([]api.Value, 0, len(row))
		for _, cell := range row {
			cells = append(cells, withEmptyLists(cell))
		}
		rows = append(rows, cells)
	}
	v.Rows = rows
	return v
}

func TestNilIsEmpty(t *testing.T) {
	all := slices.Concat(rightAtTheEdge(), wrongValues())
	for _, v := range all {
		other := withEmptyLists(v)
		if !value.Equal(v, other) || !value.Equal(other, v) || value.Right(v) != value.Right(other) || value.Text(v) != value.Text(other) || value.Less(v, other) || value.Less(other, v) {
			t.Fatalf("%s with lists that are nil or empty", fields(v))
		}
		if fields(value.Copy(other)) != fields(v) || value.RowText(row(v, other)) != value.RowText(row(other, v)) {
			t.Fatalf("Copy or RowText of %s with lists that are nil or empty", fields(v))
		}
	}
	empty, noColumns := []api.Value{}, []api.Column{}
	if !value.Fits(nil, empty) || !value.Fits(noColumns, nil) || !value.Fits(noColumns, empty) || !value.Fits(nil, nil) || value.RowText(empty) != "" {
		t.Error("Fits or RowText of nothing")
	}
}

// TestArgumentsAreNotModified also shows that they are not used behind their length.
func TestArgumentsAreNotModified(t *testing.T) {
	for _, x := range someArguments() {
		want := everything(x)
		a, b, l := withRoom(x.a), withRoom(x.b), append(slices.Clone(x.l), text("behind"))
		x.columns = append(x.columns, api.Column{Name: "behind"})[:len(x.columns)]
		before := withBehind(a) + withBehind(b) + allFields(l) + fmt.Sprint(x.columns[:cap(x.columns)])
		x.a, x.b, x.l = a, b, l[:len(x.l)]
		if got := everything(x); got != want {
			t.Fatalf("other results for %s, %s, %s", fields(a), fields(b), allFields(x.l))
		}
		if after := withBehind(a) + withBehind(b) + allFields(l) + fmt.Sprint(x.columns[:cap(x.columns)]); after != before {
			t.Fatalf("%s has become %s", before, after)
		}
	}
}

// withBehind returns all fields of a value, and what is behind the lengths of its lists.
func withBehind(v api.Value) string {
	behind := v
	behind.Cols, behind.Rows = v.Cols[:cap(v.Cols)], slices.Clone(v.Rows[:cap(v.Rows)])
	for i, row := range behind.Rows {
		behind.Rows[i] = row[:cap(row)]
	}
	return fields(behind)
}

// TestResultsAreNotShared changes a result between two equal calls.
func TestResultsAreNotShared(t *testing.T) {
	for _, s := range []string{"[a,b;'x',#2;!0,#-1.5]", "[]", "[;]", "'x'", "[a;#1]|[b;#2;#3]|'x'", "!0|!1", ""} {
		if v, ok := value.Read(s); ok {
			spoil(v)
			if again, ok := value.Read(s); !ok || value.Text(again) != s {
				t.Errorf("Read(%q) = %s, %t", s, fields(again), ok)
			}
		}
		l, _ := value.ReadRow(s)
		for _, v := range l {
			spoil(v)
		}
		clear(l[:cap(l)])
		if again, ok := value.ReadRow(s); !ok || value.RowText(again) != s {
			t.Errorf("ReadRow(%q) = %s, %t", s, allFields(again), ok)
		}
	}
}

// TestResultsDependOnArgumentsOnly repeats calls in another order, and in several goroutines.
func TestResultsDependOnArgumentsOnly(t *testing.T) {
	all := someArguments()
	want := make([]string, len(all))
	for i, x := range all {
		want[i] = everything(x)
	}
	var group sync.WaitGroup
	for range 4 {
		group.Go(func() {
			for i := len(all) - 1; i >= 0; i-- {
				if everything(all[i]) != want[i] {
					t.Errorf("other results for %q and others", all[i].s)
				}
			}
		})
	}
	group.Wait()
}

// largeStrings returns strings with more than two million bytes that are no texts.
func largeStrings() []string {
	const size = 1 << 20
	return []string{
		strings.Repeat("x", 2*size), strings.Repeat("'", 2*size+1), "'" + strings.Repeat("a", 2*size) + "'", "'" + strings.Repeat("''", size) + "'", "#" + strings.Repeat("1", 2*size), "#0." + strings.Repeat("0", 2*size) + "1",
		"!" + strings.Repeat("0", 2*size), "?" + strings.Repeat("1", 2*size), "@" + strings.Repeat("2024-01-01", size/5), "!0" + strings.Repeat("|!0", size), "[]" + strings.Repeat("|[]", size), strings.Repeat("|", 2*size),
		strings.Repeat("[", 2*size), strings.Repeat("[a;", size), "[" + strings.Repeat(";", 2*size) + "]", "[" + strings.Repeat(",", 2*size) + "]", "[a" + strings.Repeat(",a", size) + "]", "[a" + strings.Repeat(";#1", size) + "]", "[a;#1" + strings.Repeat(",#1", size) + "]", "[" + strings.Repeat("a", 2*size) + "]",
	}
}

// TestLargeStringsAreNoTexts also shows that lists that are too long are not read to their ends.
func TestLargeStringsAreNoTexts(t *testing.T) {
	for _, s := range largeStrings() {
		var before, after runtime.MemStats
		runtime.ReadMemStats(&before)
		v, ok := value.Read(s)
		l, rowOk := value.ReadRow(s)
		runtime.ReadMemStats(&after)
		if ok || rowOk || fields(v) != fields(api.Value{}) || len(l) != 0 {
			t.Errorf("Read or ReadRow of %q..", s[:10])
		}
		if used := after.TotalAlloc - before.TotalAlloc; used > 64<<20 {
			t.Errorf("%q.. takes %d bytes", s[:10], used)
		}
	}
}

func TestLargeValuesAreNotRight(t *testing.T) {
	many := make([]string, 1<<20)
	for _, v := range []api.Value{text(strings.Repeat("a", 1<<24)), table(many), table(nil, make([][]api.Value, 1<<20)...), table(names("a"), make([]api.Value, 1<<20)), table(names(strings.Repeat("a", 1<<24)))} {
		other := value.Copy(v)
		if value.Right(v) || value.Text(v) != "" || value.Less(v, other) || !value.Less(text("a"), v) || !value.Equal(v, other) || value.RowText(row(v)) != "" || value.Fits([]api.Column{{Kind: v.Kind}}, row(v)) {
			t.Errorf("a value of the Kind %d", v.Kind)
		}
	}
}

func TestDeepValues(t *testing.T) {
	v := text("x")
	for range 1 << 16 {
		v = table(nil, row(v))
	}
	other := value.Copy(v)
	if !value.Equal(v, other) || value.Right(v) || value.Text(v) != "" || value.Less(v, other) {
		t.Error("a table of tables")
	}
	if value.Equal(v, table(nil, row(v))) || value.Equal(v.Rows[0][0], v) {
		t.Error("tables of tables of another depth are equal")
	}
}
