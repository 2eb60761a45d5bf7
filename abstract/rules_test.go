package abstract_test

import (
	"fmt"
	"math"
	"slices"
	"strconv"
	"strings"
	"sync"
	"testing"

	"concord/abstract"
	"concord/api"
)

// The rules R1 to R5 of DOC.md and the promise P1, for all functions of the package.

// arguments are arguments for all functions.
type arguments struct {
	kind int
	a, b api.Abstract
	v    api.Value
}

// someArguments returns arguments of all forms.
func someArguments(count int) []arguments {
	s := &samples{state: 30}
	var l []arguments
	for _, a := range extremes() {
		l = append(l, arguments{kind: math.MinInt, a: a, b: element(s, extremes()), v: element(s, wrongValues())})
	}
	for range count {
		x := arguments{kind: s.below(9) - 2, v: s.otherValue()}
		x.a, x.b = s.pair()
		if s.below(4) == 0 {
			x.v = s.table()
			x.a = s.around(x.v)
		}
		l = append(l, x)
	}
	return l
}

// withRoom returns a copy of a list with something behind its length.
func withRoom[T any](l []T, behind T) []T {
	return append(slices.Clone(l), behind)[:len(l)]
}

// copied returns a copy of all arguments whose lists have room behind their lengths.
func (x arguments) copied() arguments {
	abstractValue := func(a api.Abstract) api.Abstract {
		a.Cols, a.Deps = withRoom(a.Cols, "behind"), withRoom(a.Deps, api.Dep{From: names("behind"), To: "behind"})
		for i, d := range a.Deps {
			a.Deps[i].From = withRoom(d.From, "behind")
		}
		return a
	}
	x.a, x.b = abstractValue(x.a), abstractValue(x.b)
	x.v.Cols, x.v.Rows = withRoom(x.v.Cols, "behind"), withRoom(x.v.Rows, row(text("behind")))
	for i, cells := range x.v.Rows {
		x.v.Rows[i] = withRoom(cells, text("behind"))
	}
	return x
}

// whole returns all arguments as a text, and what is behind the lengths of their lists.
func (x arguments) whole() string {
	abstractValue := func(a api.Abstract) string {
		a.Cols, a.Deps = a.Cols[:cap(a.Cols)], slices.Clone(a.Deps[:cap(a.Deps)])
		for i, d := range a.Deps {
			a.Deps[i].From = d.From[:cap(d.From)]
		}
		return fields(a)
	}
	v := x.v
	v.Cols, v.Rows = v.Cols[:cap(v.Cols)], slices.Clone(v.Rows[:cap(v.Rows)])
	for i, cells := range v.Rows {
		v.Rows[i] = cells[:cap(cells)]
	}
	return strings.Join([]string{strconv.Itoa(x.kind), abstractValue(x.a), abstractValue(x.b), fieldsOfValue(v)}, "\n")
}

// results are the results of all calls.
type results struct {
	sets   []api.Abstract
	truths []bool
	single api.Value
	text   string
}

// allResults calls each function. No call panics (P1).
func allResults(x arguments) results {
	r := results{
		sets:   []api.Abstract{abstract.None(), abstract.Full(x.kind), abstract.Of(x.v), abstract.Join(x.a, x.b), abstract.Join(x.b, x.a), abstract.Join(x.a, x.a), abstract.Join(x.a, abstract.None()), abstract.Meet(x.a, x.b), abstract.Meet(x.a, x.a)},
		truths: []bool{abstract.Empty(x.a), abstract.Contains(x.a, x.v), abstract.Within(x.a, x.b), abstract.Within(x.b, x.a)},
		text:   abstract.Text(x.a),
	}
	one, ok := abstract.Single(x.a)
	r.single, r.truths = one, append(r.truths, ok)
	return r
}

// whole returns all results as a text.
func (r results) whole() string {
	parts := []string{fmt.Sprint(r.truths), fieldsOfValue(r.single), r.text}
	for _, a := range r.sets {
		parts = append(parts, fields(a))
	}
	return strings.Join(parts, "\n")
}

// TestArgumentsAreNotModified also shows that they are not used behind their length.
func TestArgumentsAreNotModified(t *testing.T) {
	for _, x := range someArguments(4000) {
		y := x.copied()
		before := y.whole()
		want := allResults(x).whole()
		if got := allResults(y).whole(); got != want {
			t.Fatalf("%s\nwith room behind the lists:\n%s", want, got)
		}
		if after := y.whole(); after != before {
			t.Fatalf("%s\nbecame\n%s", before, after)
		}
	}
}

// spoil changes all lists of results, also behind their lengths.
func (r results) spoil() {
	for _, a := range r.sets {
		for _, d := range a.Deps[:cap(a.Deps)] {
			clear(d.From[:cap(d.From)])
		}
		clear(a.Cols[:cap(a.Cols)])
		clear(a.Deps[:cap(a.Deps)])
	}
}

func TestResultsAreNotShared(t *testing.T) {
	for _, x := range someArguments(4000) {
		y := x.copied()
		before := y.whole()
		first, second := allResults(y), allResults(y)
		want := second.whole()
		first.spoil()
		if after := y.whole(); after != before {
			t.Fatalf("%s\nbecame\n%s\nwith the results", before, after)
		}
		if got := second.whole(); got != want {
			t.Fatalf("%s\nbecame\n%s\nwith the results of another call", want, got)
		}
		if got := allResults(y).whole(); got != want {
			t.Fatalf("%s\nbecame\n%s in another call", want, got)
		}
	}
}

// TestListsOfResultsAreSeparate changes and appends to each list of the results, one after the other.
func TestListsOfResultsAreSeparate(t *testing.T) {
	for _, x := range someArguments(3000) {
		r := allResults(x.copied())
		want := r.whole()
		for _, a := range r.sets {
			_ = append(a.Cols, "more")
			_ = append(a.Deps, api.Dep{To: "more"})
			for _, d := range a.Deps {
				_ = append(d.From, "more")
			}
		}
		if got := r.whole(); got != want {
			t.Fatalf("%s\nbecame\n%s", want, got)
		}
		var lists [][]string
		for _, a := range r.sets {
			lists = append(lists, a.Cols)
			for _, d := range a.Deps {
				lists = append(lists, d.From)
			}
		}
		for i, l := range lists {
			for k := range l {
				l[k] = strconv.Itoa(i)
			}
		}
		for i, l := range lists {
			if slices.ContainsFunc(l, func(name string) bool { return name != strconv.Itoa(i) }) {
				t.Fatalf("two lists of the results share memory: %q", l)
			}
		}
	}
}

// TestNilIsEmpty has lists without elements that are not nil, in arguments that give the same results.
func TestNilIsEmpty(t *testing.T) {
	for _, x := range someArguments(3000) {
		y := x
		for _, a := range []*api.Abstract{&y.a, &y.b} {
			a.Cols, a.Deps = append([]string{}, a.Cols...), append([]api.Dep{}, a.Deps...)
			for i, d := range a.Deps {
				a.Deps[i].From = append([]string{}, d.From...)
			}
		}
		y.v.Cols, y.v.Rows = append([]string{}, y.v.Cols...), append([][]api.Value{}, y.v.Rows...)
		for i, cells := range y.v.Rows {
			y.v.Rows[i] = append([]api.Value{}, cells...)
		}
		if got, want := allResults(y).whole(), allResults(x).whole(); got != want {
			t.Fatalf("%s\nbecame\n%s\nwith empty lists", want, got)
		}
	}
	a := api.Abstract{Kinds: 32, Deps: []api.Dep{{To: "a"}, {From: []string{}, To: "a"}}}
	if got := abstract.Meet(a, a); len(got.Deps) != 1 {
		t.Errorf("%s has a dependency twice", fields(got))
	}
}

// TestResultsDependOnArgumentsOnly repeats calls in another order, and in several goroutines.
func TestResultsDependOnArgumentsOnly(t *testing.T) {
	all := someArguments(2000)
	want := make([]string, len(all))
	for i, x := range all {
		want[i] = allResults(x).whole()
	}
	var group sync.WaitGroup
	for range 4 {
		group.Go(func() {
			for i := len(all) - 1; i >= 0; i-- {
				if allResults(all[i]).whole() != want[i] {
					t.Errorf("other results for %s", all[i].whole())
				}
			}
		})
	}
	group.Wait()
}

// TestLargeArguments has far more columns and dependencies than tables can have. Calls that take quadratic time would not come to an end here.
func TestLargeArguments(t *testing.T) {
	const count = 1 << 16
	long := strings.Repeat("x", 1<<20)
	few := slices.Repeat(names("b", "a"), count)
	many, chain := make([]string, count), make([]api.Dep, count)
	for i := range count {
		many[i], chain[i] = "c"+strconv.Itoa(i), api.Dep{From: names("c" + strconv.Itoa(i)), To: "c" + strconv.Itoa(i+1)}
	}
	a := api.Abstract{Kinds: 32, Rows: api.Span{High: 5}, Cols: few, Deps: chain}
	b := api.Abstract{Kinds: 32, Rows: api.Span{High: 9}, Cols: names("a"), Deps: []api.Dep{{From: names("c0"), To: "c" + strconv.Itoa(count)}, {From: many, To: "c5"}, {From: slices.Repeat(names("c7"), count), To: "c6"}}}
	if got := abstract.Meet(a, a); len(got.Cols) != 2 || len(got.Deps) != count {
		t.Errorf("Meet: %d columns and %d dependencies", len(got.Cols), len(got.Deps))
	}
	if got := abstract.Join(a, b); len(got.Cols) != 1 || len(got.Deps) != 2 || got.Deps[0].To != "c"+strconv.Itoa(count) || len(got.Deps[1].From) != count {
		t.Errorf("Join: %d columns and %d dependencies", len(got.Cols), len(got.Deps))
	}
	if abstract.Within(a, b) || !abstract.Within(a, a) || abstract.Empty(a) || abstract.Contains(a, read("[a,b]")) {
		t.Error("Within, Empty or Contains of many dependencies")
	}
	if s := abstract.Text(a); !strings.HasPrefix(s, "table(0..5 a,b c0>c1 c1>c2 ") || strings.Count(s, ">") != count {
		t.Errorf("Text of %d bytes", len(s))
	}
	a.Cols = many
	if !abstract.Empty(a) || abstract.Text(a) != "none" || !abstract.Within(a, b) || abstract.Contains(a, read("[a,b]")) {
		t.Error("many columns")
	}
	for _, x := range []api.Abstract{{Kinds: 32, Cols: names(long)}, {Kinds: 2, Texts: api.Shape{Most: len(long), Classes: 8, Begin: long}}, {Kinds: 2, Texts: api.Shape{Most: len(long), Classes: 8, End: long}}} {
		if !abstract.Empty(x) || fields(abstract.Meet(x, x)) != fields(nothing()) {
			t.Error("long names or texts")
		}
	}
	if got := abstract.Of(text(long)); fields(got) != fields(nothing()) {
		t.Error("Of of a long text")
	}
	if got := abstract.Of(tableOf(many)); fields(got) != fields(nothing()) {
		t.Error("Of of many columns")
	}
	long2 := api.Abstract{Kinds: 32, Deps: []api.Dep{{From: names(long), To: "a"}, {From: names(long + "x"), To: "a"}, {From: names(long), To: "a"}}}
	if got := abstract.Join(long2, long2); len(got.Deps) != 2 {
		t.Errorf("%d dependencies with long names", len(got.Deps))
	}
}

// TestSingleIsZeroWithFalse has the zero value together with false (R2).
func TestSingleIsZeroWithFalse(t *testing.T) {
	zero := 0
	for _, x := range someArguments(4000) {
		if v, ok := abstract.Single(x.a); !ok {
			zero++
			if fieldsOfValue(v) != fieldsOfValue(api.Value{}) {
				t.Fatalf("Single(%s) = %s, false", fields(x.a), fieldsOfValue(v))
			}
		}
	}
	if zero < 1000 {
		t.Errorf("%d are not single", zero)
	}
}
