package abstract_test

import (
	"math"
	"strings"
	"testing"

	"concord/abstract"
	"concord/api"
)

// The canonical form, in which all results are.

// checkForm compares what Join and Meet return for an abstract value and others that change nothing.
func checkForm(t *testing.T, a, want api.Abstract) {
	t.Helper()
	all := everything()
	checkResult(t, "Meet of "+fields(a)+" and itself", abstract.Meet(a, a), want)
	checkResult(t, "Join of "+fields(a)+" and itself", abstract.Join(a, a), want)
	checkResult(t, "Join of "+fields(a)+" and None", abstract.Join(a, nothing()), want)
	checkResult(t, "Join of None and "+fields(a), abstract.Join(nothing(), a), want)
	checkResult(t, "Meet of "+fields(a)+" and all", abstract.Meet(a, all), want)
	checkResult(t, "Meet of all and "+fields(a), abstract.Meet(all, a), want)
	checkResult(t, "Meet of the canonical form "+fields(want), abstract.Meet(want, want), want)
}

// with returns None with some fields changed.
func with(change func(a *api.Abstract)) api.Abstract {
	a := nothing()
	change(&a)
	return a
}

func TestExamplesOfForms(t *testing.T) {
	ofKind := func(kinds int) api.Abstract {
		a := everything()
		a.Kinds, a.Errs = kinds, false
		return a
	}
	checkForm(t, api.Abstract{}, nothing())
	checkForm(t, api.Abstract{Kinds: 1, Errs: true}, with(func(a *api.Abstract) { a.Errs = true }))
	checkForm(t, ofKind(0), nothing())
	checkForm(t, ofKind(1|64|1<<40|math.MinInt), nothing())
	checkForm(t, ofKind(-1), ofKind(62))
	checkForm(t, everything(), everything())
	for _, c := range []struct {
		texts, want api.Shape
	}{
		{api.Shape{Least: -5, Most: 300, Classes: -1, Begin: "ab"}, api.Shape{Least: 2, Most: 200, Classes: 110, Begin: "ab"}}, {api.Shape{Least: 1, Most: 9, Classes: 25, End: "abc"}, api.Shape{Least: 3, Most: 9, Classes: 8, End: "abc"}}, {api.Shape{}, api.Shape{}}, {api.Shape{Most: 4}, api.Shape{Most: 4}},
	} {
		checkForm(t, api.Abstract{Kinds: 2, Texts: c.texts}, with(func(a *api.Abstract) { a.Kinds, a.Texts = 2, c.want }))
	}
	checkForm(t, api.Abstract{Kinds: 2, Texts: api.Shape{Least: 3, Most: 2, Classes: 8}}, nothing())
	checkForm(t, api.Abstract{Kinds: 2, Texts: api.Shape{Most: 9, Classes: 8, Begin: "A"}}, nothing())
	for _, c := range []struct{ numbers, want api.Range }{
		{api.Range{Low: api.Dec{N: 10, Scale: 1}, High: api.Dec{N: 5, Scale: 1}}, api.Range{High: api.Dec{N: 5, Scale: 1}}}, {api.Range{Low: api.Dec{N: -3}, High: api.Dec{N: math.MaxInt}}, api.Range{Low: api.Dec{N: -3}}}, {api.Range{Low: api.Dec{N: 10}, High: api.Dec{N: 101, Scale: 1}}, api.Range{Low: api.Dec{N: 10}, High: api.Dec{N: 101, Scale: 1}}},
	} {
		checkForm(t, api.Abstract{Kinds: 4, Numbers: c.numbers}, with(func(a *api.Abstract) { a.Kinds, a.Numbers = 4, c.want }))
	}
	checkForm(t, api.Abstract{Kinds: 4, Numbers: api.Range{Low: api.Dec{N: 3}, High: api.Dec{N: 2}}}, nothing())
	for _, c := range []struct{ span, dates, rows api.Span }{
		{api.Span{Low: -5, High: 3}, api.Span{High: 3}, api.Span{High: 3}}, {api.Span{Low: 7, High: 7}, api.Span{Low: 7, High: 7}, api.Span{Low: 7, High: 7}}, {api.Span{Low: 100, High: 101}, api.Span{Low: 100, High: 101}, api.Span{Low: 100, High: 100}}, {api.Span{Low: math.MinInt, High: math.MaxInt}, api.Span{High: 3652058}, api.Span{High: 100}}, {api.Span{Low: math.MinInt, High: 0}, api.Span{}, api.Span{}},
	} {
		checkForm(t, api.Abstract{Kinds: 8, Dates: c.span}, with(func(a *api.Abstract) { a.Kinds, a.Dates = 8, c.dates }))
		checkForm(t, api.Abstract{Kinds: 32, Rows: c.span}, with(func(a *api.Abstract) { a.Kinds, a.Rows = 32, c.rows }))
	}
	for _, span := range []api.Span{{Low: 4, High: 3}, {Low: -9, High: -1}, {Low: math.MaxInt, High: math.MinInt}, {Low: 3652059, High: math.MaxInt}} {
		checkForm(t, api.Abstract{Kinds: 8, Dates: span}, nothing())
		checkForm(t, api.Abstract{Kinds: 32, Rows: span, Cols: names("a"), Deps: deps("a>b")}, nothing())
	}
	for bools := -8; bools < 8; bools++ {
		want := nothing()
		if bools&3 != 0 {
			want.Kinds, want.Bools = 16, bools&3
		}
		checkForm(t, api.Abstract{Kinds: 16, Bools: bools}, want)
	}
}

func TestFormsOfCols(t *testing.T) {
	long := strings.Repeat("z", 20)
	for _, c := range []struct{ cols, want string }{
		{"b a b", "a b"}, {"", ""}, {"z y x w v u t s", "s t u v w x y z"}, {"h g f e d c b a a b c", "a b c d e f g h"}, {"a B _x"[:3], "B a"}, {"b10 b1 b b_ B", "B b b1 b10 b_"}, {long + " a " + long, "a " + long},
	} {
		checkForm(t, api.Abstract{Kinds: 32, Cols: strings.Fields(c.cols)}, with(func(a *api.Abstract) { a.Kinds, a.Rows, a.Cols = 32, api.Span{}, strings.Fields(c.want) }))
	}
	for _, cols := range []string{"a b c d e f g h i", "1", "_", "a -", long + "z", "a é", "a b. c"} {
		checkForm(t, api.Abstract{Kinds: 32, Cols: strings.Fields(cols), Deps: deps("a>b")}, nothing())
	}
	checkForm(t, api.Abstract{Kinds: 32, Cols: names("a", "")}, nothing())
	checkForm(t, api.Abstract{Kinds: 32, Cols: names(" a")}, nothing())
}

// TestFormsOfDeps has dependencies that are different, although their names are alike when they are put together.
func TestFormsOfDeps(t *testing.T) {
	different := []api.Dep{
		{}, {To: "a"}, {From: names("a")}, {From: names("a"), To: "b"}, {To: "ab"}, {From: names("ab")}, {From: names("a", "b")}, {From: names("b", "a")}, {From: names("a", "a"), To: "b"}, {From: names("a", "b"), To: "c"}, {From: names("b", "a"), To: "c"}, {From: names("a,b"), To: "c"}, {From: names("ab"), To: "c"}, {From: names("a"), To: "bc"},
		{From: names("")}, {From: names("", "")}, {From: names("", "a"), To: "b"}, {From: names("a", ""), To: "b"}, {From: names("1:a")}, {To: "1:a"}, {To: "a1:b"}, {From: names("a1:b")}, {From: names("a"), To: "1:b"}, {From: names("11"), To: ":a"}, {From: names("1"), To: "1:a"}, {To: "0:"}, {From: names("0:")}, {From: names("a>"), To: "b"}, {From: names("a"), To: ">b"}, {To: "\x00"}, {From: names("\x00")}, {From: names("a", "b", "c"), To: "a"}, {To: "9"}, {From: names("1", ""), To: "123456789"}, {To: "09123456789"}, {From: names("1:", "", "x")}, {From: names("1"), To: ":0::1:x"},
	}
	want := with(func(a *api.Abstract) { a.Kinds, a.Rows, a.Deps = 32, api.Span{Low: 3, High: 4}, different })
	checkForm(t, want, want)
	again := want
	again.Deps = nil
	for i, d := range different {
		again.Deps = append(append(again.Deps, d), different[:i]...)
	}
	checkForm(t, again, want)
	again.Deps = append(again.Deps, api.Dep{From: []string{}, To: "a"}, api.Dep{From: []string{}})
	checkForm(t, again, want)
}

func TestFormsOfSamples(t *testing.T) {
	for _, a := range someAbstracts(20000, 7) {
		checkForm(t, a, wantedForm(a))
	}
}
