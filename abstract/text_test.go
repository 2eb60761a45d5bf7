package abstract_test

import (
	"math"
	"strings"
	"testing"

	"concord/abstract"
	"concord/api"
)

// P10.7: Text.

func TestExamplesOfText(t *testing.T) {
	all := everything()
	all.Cols, all.Deps = names("b", "a", "b"), deps("a,b>c >a a,b>c b,a>c")
	z := strings.Repeat("z", 20)
	for _, c := range []struct {
		a    api.Abstract
		want string
	}{
		{nothing(), "none"}, {api.Abstract{}, "none"}, {api.Abstract{Kinds: 1}, "none"}, {api.Abstract{Kinds: 1, Errs: true}, "error"}, {api.Abstract{Kinds: 64, Bools: 3}, "none"}, {abstract.Full(0), "error"},
		{abstract.Full(1), "text(0 200 110 0: 0:)"}, {abstract.Of(text("a1")), "text(2 2 10 2:a1 2:a1)"}, {api.Abstract{Kinds: 2, Texts: api.Shape{Least: -4, Most: 3, Classes: -1, Begin: "a)", End: "("}}, "text(2 3 110 2:a) 1:()"}, {api.Abstract{Kinds: 2, Texts: api.Shape{Least: 4, Most: 3}}, "none"},
		{abstract.Full(2), "number(-1000000000000000..1000000000000000)"}, {api.Abstract{Kinds: 4, Numbers: api.Range{Low: api.Dec{N: -5, Scale: 2}, High: api.Dec{N: 10, Scale: 1}}}, "number(-0.05..0)"}, {api.Abstract{Numbers: api.Range{High: api.Dec{N: 3}}}, "none"},
		{abstract.Full(3), "date(0..3652058)"}, {api.Abstract{Kinds: 8, Dates: api.Span{Low: -5, High: 3}}, "date(0..3)"}, {api.Abstract{Kinds: 8, Dates: api.Span{Low: 4, High: 3}}, "none"}, {abstract.Full(4), "bool(3)"}, {api.Abstract{Kinds: 16, Bools: 6}, "bool(2)"}, {api.Abstract{Kinds: 16, Bools: math.MinInt + 1}, "bool(1)"},
		{abstract.Full(5), "table(0..100 )"}, {tables(90, 200, "bab", ">a >a"), "table(90..100 a,b >a)"}, {tables(0, 1, "", "a>b"), "table(0..1  a>b)"}, {tables(7, 7, "a", ""), "table(7..7 a)"}, {tables(0, 0, "dcba", "d,c,b>a d>d"), "table(0..0 a,b,c,d d,c,b>a d>d)"}, {api.Abstract{Kinds: 32, Cols: names(z, "a"), Deps: []api.Dep{{}, {From: names("", "9")}, {To: "a b"}}}, "table(0..0 a," + z + " > ,9> >a b)"}, {tables(0, 1, "9", ""), "none"},
		{all, "text(0 200 110 0: 0:) number(-1000000000000000..1000000000000000) date(0..3652058) bool(3) table(0..100 a,b a,b>c >a b,a>c) error"}, {api.Abstract{Kinds: 24, Bools: 1, Errs: true}, "date(0..0) bool(1) error"}, {api.Abstract{Kinds: 38, Rows: api.Span{Low: 1, High: 2}}, "text(0 0 0 0: 0:) number(0..0) table(1..2 )"},
		{abstract.Join(abstract.Of(number(1, 0)), abstract.Of(number(25, 1))), "number(1..2.5)"}, {abstract.Join(abstract.Of(day(5)), abstract.Of(failed(18))), "date(5..5) error"}, {abstract.Meet(abstract.Of(number(1, 0)), abstract.Of(number(2, 0))), "none"},
	} {
		if got := abstract.Text(c.a); got != c.want || wantedText(c.a) != c.want {
			t.Errorf("Text(%s) = %q, not %q", fields(c.a), got, c.want)
		}
	}
}

func TestTextOfSamples(t *testing.T) {
	known := map[string]bool{}
	for _, a := range someAbstracts(20000, 12) {
		want := wantedText(a)
		if got := abstract.Text(a); got != want {
			t.Fatalf("Text(%s) = %q, not %q", fields(a), got, want)
		}
		known[want] = true
	}
	if len(known) < 8000 {
		t.Errorf("%d different texts", len(known))
	}
}
