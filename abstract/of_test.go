package abstract_test

import (
	"math"
	"strings"
	"testing"

	"concord/abstract"
	"concord/api"
)

// P10.1: None, Full, Of.

// checkResult reports a result that is not the one that is wanted, field by field.
func checkResult(t *testing.T, call string, got, want api.Abstract) {
	t.Helper()
	if fields(got) != fields(want) {
		t.Fatalf("%s = %s, not %s", call, fields(got), fields(want))
	}
}

func TestNone(t *testing.T) {
	checkResult(t, "None()", abstract.None(), nothing())
}

func TestFull(t *testing.T) {
	for kind, want := range map[int]api.Abstract{
		0: {Texts: api.Shape{Least: 1}, Numbers: api.Range{Low: api.Dec{N: 1}}, Dates: api.Span{Low: 1}, Rows: api.Span{Low: 1}, Errs: true},
		1: {Kinds: 2, Texts: api.Shape{Most: 200, Classes: 110}, Numbers: api.Range{Low: api.Dec{N: 1}}, Dates: api.Span{Low: 1}, Rows: api.Span{Low: 1}},
		2: {Kinds: 4, Texts: api.Shape{Least: 1}, Numbers: api.Range{Low: api.Dec{N: -1e15}, High: api.Dec{N: 1e15}}, Dates: api.Span{Low: 1}, Rows: api.Span{Low: 1}},
		3: {Kinds: 8, Texts: api.Shape{Least: 1}, Numbers: api.Range{Low: api.Dec{N: 1}}, Dates: api.Span{High: 3652058}, Rows: api.Span{Low: 1}},
		4: {Kinds: 16, Texts: api.Shape{Least: 1}, Numbers: api.Range{Low: api.Dec{N: 1}}, Dates: api.Span{Low: 1}, Bools: 3, Rows: api.Span{Low: 1}},
		5: {Kinds: 32, Texts: api.Shape{Least: 1}, Numbers: api.Range{Low: api.Dec{N: 1}}, Dates: api.Span{Low: 1}, Rows: api.Span{High: 100}},
	} {
		checkResult(t, "Full", abstract.Full(kind), want)
		checkResult(t, "Full, by the words,", wantedFull(kind), want)
	}
	for _, kind := range []int{-1, 6, 7, 8, 16, 32, 62, 63, 64, 65, 256, 1<<32 + 1, math.MaxInt, math.MinInt, math.MinInt + 1} {
		checkResult(t, "Full", abstract.Full(kind), nothing())
	}
}

// TestFullContainsItsKind has right values and others of all Kinds.
func TestFullContainsItsKind(t *testing.T) {
	for _, v := range someValues(200, 1) {
		for kind := -1; kind < 8; kind++ {
			if abstract.Contains(abstract.Full(kind), v) != (v.Kind == kind) {
				t.Errorf("Full(%d) and %s", kind, fieldsOfValue(v))
			}
		}
	}
	for _, v := range wrongValues() {
		for kind := -1; kind < 8; kind++ {
			if abstract.Contains(abstract.Full(kind), v) {
				t.Errorf("Full(%d) contains %s", kind, fieldsOfValue(v))
			}
		}
	}
}

func TestExamplesOfOf(t *testing.T) {
	x := strings.Repeat("x", 200)
	for _, c := range []struct{ v, want string }{
		{"'a1'", "text(2 2 10 2:a1 2:a1)"}, {"''", "text(0 0 0 0: 0:)"}, {"'" + x + "'", "text(200 200 8 200:" + x + " 200:" + x + ")"},
		{"#1", "number(1..1)"}, {"#0", "number(0..0)"}, {"#-0.05", "number(-0.05..-0.05)"}, {"#1000000000000000", "number(1000000000000000..1000000000000000)"},
		{"@0001-01-01", "date(0..0)"}, {"@0001-01-06", "date(5..5)"}, {"@9999-12-31", "date(3652058..3652058)"}, {"?0", "bool(1)"}, {"?1", "bool(2)"}, {"!0", "error"}, {"!1", "error"}, {"!99", "error"},
		{"[]", "table(0..0 )"}, {"[;;]", "table(2..2 )"}, {"[a]", "table(0..0 a >a)"}, {"[b,a]", "table(0..0 a,b >b >a)"}, {"[b,a;#1,#2]", "table(1..1 a,b >b >a)"}, {"[a;#1;#2]", "table(2..2 a)"},
		{"[b,a;'x',#2;'y',#2]", "table(2..2 a,b b>a)"}, {"[b,a;#1,#1;#2,#2]", "table(2..2 a,b b>a a>b)"}, {"[c,b,a;#1,#1,#1;#1,#2,#1;#2,#1,#1;#2,#2,#2]", "table(4..4 a,b,c c,b>a)"}, {"[b,a;!1,#1;!1,#1]", "table(2..2 a,b >b >a)"}, {"[b,a;!1,#1;!0,#1]", "table(2..2 a,b b>a)"},
	} {
		v := read(c.v)
		got := abstract.Of(v)
		checkResult(t, "Of("+c.v+")", got, wantedOf(v))
		if s := wantedText(got); s != c.want {
			t.Errorf("Of(%s) = %s, not %s", c.v, s, c.want)
		}
	}
}

func TestOfSamples(t *testing.T) {
	kinds := [6]int{}
	for _, v := range someValues(4000, 2) {
		checkResult(t, "Of("+fieldsOfValue(v)+")", abstract.Of(v), wantedOf(v))
		kinds[v.Kind]++
	}
	for kind, count := range kinds {
		if count < 2 {
			t.Errorf("%d values of the Kind %d", count, kind)
		}
	}
}

func TestOfWrongValues(t *testing.T) {
	for _, v := range wrongValues() {
		checkResult(t, "Of("+fieldsOfValue(v)+")", abstract.Of(v), nothing())
	}
}
