package table_test

import (
	"slices"
	"strconv"
	"strings"
	"testing"

	"concord/api"
	"concord/table"
)

// P9.5: Holds, Closure, Implies.

func checkHolds(t *testing.T, cols []string, rows [][]api.Value, d api.Dep) bool {
	t.Helper()
	want := wantedHolds(cols, rows, d)
	if table.Holds(cols, rows, d) != want {
		t.Fatalf("Holds(%q, %s, %s) is not %t", cols, fieldsOfRows(rows), fieldsOfDeps([]api.Dep{d}), want)
	}
	return want
}

func TestExamplesOfHolds(t *testing.T) {
	x := cities()
	for _, c := range []struct {
		d    api.Dep
		want bool
	}{
		{api.Dep{From: names("country"), To: "zip"}, false}, {api.Dep{From: names("city"), To: "country"}, true}, {api.Dep{From: names("country"), To: "city"}, false}, {api.Dep{From: names("zip"), To: "country"}, true}, {api.Dep{From: names("country"), To: "country"}, true}, {api.Dep{From: names("country", "zip"), To: "city"}, true}, {api.Dep{From: names("country", "country"), To: "zip"}, false}, {api.Dep{To: "country"}, false},
		{api.Dep{From: names("town"), To: "city"}, false}, {api.Dep{From: names("city", "town"), To: "country"}, false}, {api.Dep{From: names("city"), To: "land"}, false}, {api.Dep{From: names("land"), To: "land"}, false}, {api.Dep{From: names("city"), To: ""}, false}, {api.Dep{}, false},
	} {
		if checkHolds(t, x.Cols, x.Rows, c.d) != c.want {
			t.Errorf("Holds of %s is not %t", fieldsOfDeps([]api.Dep{c.d}), c.want)
		}
	}
}

func TestHoldsAtTheEdge(t *testing.T) {
	ab, ten, one := names("a", "b"), number(10, 1), number(1, 0)
	deep := func(s string) api.Value { return tableOf(names("x"), row(tableOf(names("y"), row(text(s))))) }
	for _, c := range []struct {
		cols []string
		rows [][]api.Value
		d    api.Dep
		want bool
	}{
		// No rows, one row, and no columns.
		{ab, nil, dep("", "a"), true}, {ab, nil, dep("a", "b"), true}, {ab, nil, dep("c", "b"), false}, {ab, nil, dep("a", "c"), false}, {nil, nil, dep("", ""), false}, {nil, nil, dep("", "a"), false}, {nil, [][]api.Value{nil, nil}, dep("", "a"), false}, {ab, [][]api.Value{row(one, text("x"))}, dep("", "b"), true},
		// An empty From.
		{ab, [][]api.Value{row(one, text("x")), row(one, text("y"))}, dep("", "a"), true}, {ab, [][]api.Value{row(one, text("x")), row(one, text("y"))}, dep("", "b"), false}, {ab, [][]api.Value{row(one, text("x")), row(one, text("x")), row(one, text("y"))}, dep("", "b"), false},
		// Rows with other numbers of cells.
		{ab, [][]api.Value{row(one, one), row(one)}, dep("a", "a"), false}, {ab, [][]api.Value{row(one, one, one)}, dep("a", "b"), false}, {ab, [][]api.Value{nil}, dep("", "a"), false}, {ab, [][]api.Value{row(one, one), row(one, one), row(one, one, one)}, dep("a", "b"), false}, {nil, [][]api.Value{row(one)}, dep("", "a"), false},
		// Cells of the Kind None, and others that are not right.
		{ab, [][]api.Value{row(failed(0), one), row(failed(0), ten)}, dep("a", "b"), false}, {ab, [][]api.Value{row(failed(0), one), row(failed(1), ten)}, dep("a", "b"), true}, {ab, [][]api.Value{row(failed(0), one), row(failed(0), one)}, dep("a", "b"), true}, {ab, [][]api.Value{row(one, failed(1)), row(one, failed(2))}, dep("a", "b"), false}, {ab, [][]api.Value{row(ten, text("x")), row(one, text("y"))}, dep("a", "b"), true}, {ab, [][]api.Value{row(ten, text("x")), row(ten, text("y"))}, dep("a", "b"), false}, {ab, [][]api.Value{row(deep("x"), one), row(deep("y"), ten)}, dep("a", "b"), true}, {ab, [][]api.Value{row(deep("x"), one), row(deep("x"), ten)}, dep("a", "b"), false}, {ab, [][]api.Value{row(one, deep("x")), row(one, deep("x"))}, dep("a", "b"), true}, {ab, [][]api.Value{row(one, deep("x")), row(one, deep("y"))}, dep("a", "b"), false},
		// The first one of two columns with the same name counts.
		{names("a", "a", "b"), [][]api.Value{row(one, one, one), row(one, ten, ten)}, dep("a", "b"), false}, {names("a", "a", "b"), [][]api.Value{row(one, one, one), row(ten, one, ten)}, dep("a", "b"), true}, {names("b", "a", "a"), [][]api.Value{row(one, one, one), row(one, one, ten)}, dep("b", "a"), true}, {names("b", "a", "a"), [][]api.Value{row(one, one, one), row(one, ten, one)}, dep("b", "a"), false}, {names("", "", "b"), [][]api.Value{row(one, one, one), row(ten, one, ten)}, api.Dep{From: names("", ""), To: "b"}, true},
		// Two pairs whose cells are equal one after the other.
		{names("a", "b", "c"), [][]api.Value{row(text("x"), text("yz"), one), row(text("xy"), text("z"), ten)}, dep("ab", "c"), true}, {names("a", "b", "c"), [][]api.Value{row(text("x"), text("y"), one), row(text("y"), text("x"), ten)}, dep("ab", "c"), true}, {names("a", "b", "c"), [][]api.Value{row(text("x"), text("y"), one), row(text("x"), text("z"), ten), row(text("y"), text("z"), one)}, dep("ab", "c"), true}, {names("a", "b", "c"), [][]api.Value{row(text("x"), text("y"), one), row(text("x"), text("z"), ten), row(text("x"), text("y"), ten)}, dep("ba", "c"), false},
	} {
		if checkHolds(t, c.cols, c.rows, c.d) != c.want {
			t.Errorf("Holds(%q, %s, %s) is not %t", c.cols, fieldsOfRows(c.rows), fieldsOfDeps([]api.Dep{c.d}), c.want)
		}
	}
}

// TestCellsAreComparedWhole has two rows with each pair of values, of which many differ in one field alone, or only in where a list ends.
func TestCellsAreComparedWhole(t *testing.T) {
	l := append(otherValues(), failed(0), text(""), text("0 "), text("1"), text("x"), number(0, 0), number(1, 0), number(1, 1), number(11, 0), day(0), day(1), truth(0), truth(1),
		tableOf(names("a", "b")), tableOf(names("ab")), tableOf(names("a", "")), tableOf(names("", "a")), tableOf(names("a 1 b")), tableOf(names("1 a1 b")), tableOf(names("a"), nil), tableOf(names("a"), nil, nil), tableOf(nil, nil), tableOf(nil, row(failed(0))), tableOf(nil, row(failed(0)), nil), tableOf(nil, nil, row(failed(0))), tableOf(nil, row(failed(0), failed(0))), tableOf(nil, row(failed(0)), row(failed(0))), tableOf(nil, row(text("x"))), tableOf(nil, row(text("y"))),
		api.Value{Kind: 1, S: "x", N: 1}, api.Value{Kind: 1, S: "x", D: api.Dec{N: 1}}, api.Value{Kind: 1, S: "x", D: api.Dec{Scale: 1}}, api.Value{Kind: 1, S: "x", Cols: names("y")}, api.Value{Kind: 1, S: "xy"}, api.Value{Kind: 1, S: "x", Rows: [][]api.Value{nil}}, api.Value{Kind: 11, S: "x"}, api.Value{Kind: -1, S: "x"}, api.Value{Kind: 0, N: -1}, api.Value{Kind: 0, D: api.Dec{N: -1}}, api.Value{Kind: 0, D: api.Dec{Scale: -1}})
	for _, x := range l {
		for _, y := range l {
			rows := [][]api.Value{row(x, text("p"), truth(0)), row(y, text("p"), truth(1))}
			checkHolds(t, letters("abc"), rows, dep("a", "c"))
			checkHolds(t, letters("abc"), rows, dep("b", "a"))
			checkHolds(t, letters("abc"), rows, dep("ba", "c"))
		}
	}
}

// cellsThatLookAlike returns cells whose fields, written one after the other, look alike if it is not known where a number, a string or a list ends.
func cellsThatLookAlike() []api.Value {
	numbers := []int{0, 1, 2, 10, 11, 12, 20, 21, 110, 112, -1, -11}
	var l []api.Value
	for _, a := range numbers {
		for _, b := range numbers {
			for _, c := range numbers {
				l = append(l, api.Value{Kind: a, D: api.Dec{N: b, Scale: c}}, api.Value{Kind: a, D: api.Dec{N: b}, N: c}, api.Value{D: api.Dec{N: a, Scale: b}, N: c})
			}
		}
	}
	withName, withRow := api.Value{Cols: names("")}, api.Value{Rows: [][]api.Value{nil}}
	for _, v := range []api.Value{withName, withRow} {
		l = append(l, tableOf(nil, row(v, failed(0))), tableOf(nil, row(failed(0), v)))
	}
	for n := range 100 {
		s := strconv.Itoa(n)
		l = append(l, tableOf(names(s+" ", "")), tableOf(names("", s+" ")), api.Value{S: s, Cols: names("a")}, api.Value{S: s + " a", Cols: names("")}, api.Value{Cols: names(s + " a")}, api.Value{S: "a", Cols: names(s)})
		// The fields of the one cell begin and end like those of the other one, after a number that can be the length of something.
		l = append(l, tableOf(nil, row(api.Value{Kind: n, N: 0, S: "1", Cols: names("ab", "cdefghij")}), nil), tableOf(nil, nil, row(api.Value{N: 2, S: "ab8 cdefghij", Rows: [][]api.Value{nil}})))
	}
	return l
}

// anyValue returns a value with strings of digits and blanks, and tables in tables.
func (s *samples) anyValue(depth int) api.Value {
	word := func() string {
		var b strings.Builder
		for range s.below(4) {
			b.WriteByte("01 2"[s.below(4)])
		}
		return b.String()
	}
	v := api.Value{Kind: s.below(3), S: word(), D: api.Dec{N: s.below(2), Scale: s.below(2)}, N: s.below(12)}
	for range s.below(3) {
		v.Cols = append(v.Cols, word())
	}
	for range s.below(3) * depth {
		var cells []api.Value
		for range s.below(3) {
			cells = append(cells, s.anyValue(depth-1))
		}
		v.Rows = append(v.Rows, cells)
	}
	return v
}

// TestNoCellIsTakenForAnother has many different cells in one column, and their numbers in another one.
func TestNoCellIsTakenForAnother(t *testing.T) {
	s := &samples{state: 10}
	l := slices.Concat(cellsThatLookAlike(), otherValues())
	for range 8000 {
		l = append(l, s.anyValue(2))
	}
	var rows [][]api.Value
	known := map[string]bool{}
	for _, v := range l {
		if key := fields(v); !known[key] {
			known[key] = true
			rows = append(rows, row(v, number(len(rows), 0)))
		}
	}
	if len(rows) < 8000 || !table.Holds(names("a", "b"), rows, dep("a", "b")) {
		t.Errorf("two of %d cells are taken for each other", len(rows))
	}
	for range 5 {
		again := row(element(s, l), number(-1, 0))
		if table.Holds(names("a", "b"), append(rows, again), dep("a", "b")) {
			t.Errorf("%s is not found again", fields(again[0]))
		}
	}
}

func TestHoldsOfSamples(t *testing.T) {
	s := &samples{state: 5}
	holds := 0
	const tries = 20000
	for range tries {
		x := s.table()
		if s.below(4) == 0 && len(x.Cols) > 1 {
			x.Cols[s.below(len(x.Cols))] = element(s, x.Cols)
		}
		if s.below(4) == 0 {
			x.Rows = s.otherRows(x.Rows)
		}
		if checkHolds(t, x.Cols, x.Rows, s.dep(x.Cols)) {
			holds++
		}
	}
	if holds < tries/5 || holds > tries*4/5 {
		t.Errorf("%d of %d dependencies hold", holds, tries)
	}
}

func checkClosure(t *testing.T, l []api.Dep, from []string) []string {
	t.Helper()
	got, want := table.Closure(l, from), wantedClosure(l, from)
	if !slices.Equal(got, want) {
		t.Fatalf("Closure(%s, %q) = %q, not %q", fieldsOfDeps(l), from, got, want)
	}
	return got
}

func TestExamplesOfClosure(t *testing.T) {
	chain := []api.Dep{dep("a", "b"), dep("b", "c")}
	for _, c := range []struct {
		l          []api.Dep
		from, want string
	}{
		{chain, "a", "abc"}, {chain, "b", "bc"}, {chain, "c", "c"}, {chain, "", ""}, {chain, "d", "d"}, {chain, "da", "abcd"}, {chain, "cba", "abc"}, {nil, "ba", "ab"}, {nil, "", ""}, {nil, "bab", "ab"},
		{[]api.Dep{dep("b", "c"), dep("a", "b")}, "a", "abc"}, {[]api.Dep{dep("", "x")}, "", "x"}, {[]api.Dep{dep("", "x"), dep("x", "y"), dep("z", "u")}, "", "xy"}, {[]api.Dep{dep("ab", "c")}, "a", "a"}, {[]api.Dep{dep("ab", "c")}, "b", "b"}, {[]api.Dep{dep("ab", "c")}, "ab", "abc"}, {[]api.Dep{dep("abab", "c")}, "ba", "abc"}, {[]api.Dep{dep("aa", "b"), dep("bab", "c")}, "a", "abc"}, {[]api.Dep{dep("cb", "d"), dep("a", "b"), dep("", "c")}, "a", "abcd"},
		{[]api.Dep{dep("a", "a")}, "b", "b"}, {[]api.Dep{dep("a", "a")}, "a", "a"}, {[]api.Dep{dep("a", "b"), dep("b", "a")}, "a", "ab"}, {[]api.Dep{dep("a", "b"), dep("b", "a")}, "c", "c"}, {[]api.Dep{dep("a", "b"), dep("a", "b"), dep("a", "B")}, "a", "Bab"}, {[]api.Dep{dep("ab", "c"), dep("bc", "d"), dep("cd", "e"), dep("ef", "g")}, "ba", "abcde"},
	} {
		if got := checkClosure(t, c.l, letters(c.from)); strings.Join(got, "") != c.want {
			t.Errorf("Closure(%s, %s) = %q", fieldsOfDeps(c.l), c.from, got)
		}
	}
}

// TestOrderOfClosure has names whose order is that of their bytes, a beginning before the whole.
func TestOrderOfClosure(t *testing.T) {
	want := names("", "\x00", "1", "10", "9", "A", "Z", "_", "a", "a b", "aa", "ab", "b", "z", "\xc3\xa4", "\xff")
	from := slices.Clone(want)
	slices.Reverse(from)
	if got := table.Closure(nil, from); !slices.Equal(got, want) {
		t.Errorf("Closure(nil, %q) = %q", from, got)
	}
	var l []api.Dep
	for _, name := range from {
		l = append(l, api.Dep{To: name})
	}
	if got := table.Closure(l, nil); !slices.Equal(got, want) {
		t.Errorf("Closure(%s, nil) = %q", fieldsOfDeps(l), got)
	}
}

// TestClosureAndImpliesOfSamples also compares both with each other.
func TestClosureAndImpliesOfSamples(t *testing.T) {
	s := &samples{state: 6}
	implied, grown := 0, 0
	const tries = 20000
	for range tries {
		cols := letters("abcdefgh")[:2+s.below(7)]
		var l []api.Dep
		for range s.below(10) {
			l = append(l, s.dep(cols))
		}
		d := s.dep(cols)
		closure := checkClosure(t, l, d.From)
		if len(closure) > len(d.From) {
			grown++
		}
		want := slices.Contains(closure, d.To)
		if table.Implies(l, d) != want {
			t.Fatalf("Implies(%s, %s) is not %t", fieldsOfDeps(l), fieldsOfDeps([]api.Dep{d}), want)
		}
		if want {
			implied++
		}
	}
	if implied < tries/5 || implied > tries*4/5 || grown < tries/5 {
		t.Errorf("of %d dependencies %d are implied, %d closures have grown", tries, implied, grown)
	}
}

func TestExamplesOfImplies(t *testing.T) {
	l := []api.Dep{dep("a", "b"), dep("cb", "d"), dep("", "c")}
	for d, want := range map[string]bool{"a>a": true, "a>b": true, "a>c": true, "a>d": true, "b>d": true, "b>a": false, ">c": true, ">a": false, ">d": false, "x>x": true, "x>y": false, "x>c": true, "ax>d": true, "c>b": false} {
		from, to, _ := strings.Cut(d, ">")
		if table.Implies(l, dep(from, to)) != want {
			t.Errorf("Implies(.., %s) is not %t", d, want)
		}
	}
	if table.Implies(nil, api.Dep{}) || !table.Implies(nil, api.Dep{From: names(""), To: ""}) || !table.Implies([]api.Dep{{}}, api.Dep{}) {
		t.Error("Implies with the empty name")
	}
}

// TestLongChains has each dependency behind those that need it, and one with a long From, so that closures that look at all of them again and again take hours.
func TestLongChains(t *testing.T) {
	const length = 1 << 17
	var l []api.Dep
	all := make([]string, length+1)
	for i := range all {
		all[i] = strconv.Itoa(i)
	}
	l = append(l, api.Dep{From: all, To: "end"})
	for i := length - 1; i >= 0; i-- {
		l = append(l, api.Dep{From: names(all[i], all[0]), To: all[i+1]})
	}
	if got := table.Closure(l, all[:1]); len(got) != length+2 || got[length+1] != "end" {
		t.Errorf("%d names", len(got))
	}
	slices.Reverse(l)
	if !table.Implies(l, api.Dep{From: all[:1], To: "end"}) || table.Implies(l, api.Dep{From: all[1:], To: "end"}) {
		t.Error("Implies of a long chain")
	}
}
