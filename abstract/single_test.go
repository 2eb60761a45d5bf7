package abstract_test

import (
	"math"
	"strings"
	"testing"

	"concord/abstract"
	"concord/api"
)

// P10.6: Single.

// checkSingle compares the results of Single, and returns the bool.
func checkSingle(t *testing.T, a api.Abstract) bool {
	t.Helper()
	got, ok := abstract.Single(a)
	want, wantOk := wantedSingle(a)
	if ok != wantOk || fieldsOfValue(got) != fieldsOfValue(want) {
		t.Fatalf("Single(%s) = %s, %t, not %s, %t", fields(a), fieldsOfValue(got), ok, fieldsOfValue(want), wantOk)
	}
	return ok
}

func TestExamplesOfSingle(t *testing.T) {
	x := strings.Repeat("x", 200)
	for _, c := range []struct {
		a    api.Abstract
		want string
	}{
		{abstract.Of(truth(1)), "?1"}, {abstract.Of(truth(0)), "?0"}, {abstract.Full(4), ""}, {api.Abstract{Kinds: 16, Bools: -2}, "?1"}, {api.Abstract{Kinds: 16, Bools: -1}, ""}, {api.Abstract{Kinds: 17, Bools: -3}, "?0"}, {api.Abstract{Kinds: 16, Bools: 6}, "?1"}, {api.Abstract{Kinds: 16, Bools: 4}, ""}, {api.Abstract{Kinds: 16, Bools: 1, Errs: true}, ""}, {api.Abstract{Kinds: 18, Texts: api.Shape{Least: 1}, Bools: 1}, "?0"}, {api.Abstract{Kinds: 20, Bools: 1}, ""},
		{api.Abstract{Kinds: 2}, "''"}, {api.Abstract{Kinds: 2, Texts: api.Shape{Most: 9}}, ""}, {api.Abstract{Kinds: 2, Texts: api.Shape{Most: 2, Classes: 8, Begin: "ab"}}, "'ab'"}, {api.Abstract{Kinds: 2, Texts: api.Shape{Most: 2, Classes: 8, End: "ab"}}, ""}, {api.Abstract{Kinds: 2, Texts: api.Shape{Most: 3, Classes: 8, Begin: "ab"}}, ""}, {api.Abstract{Kinds: 2, Texts: api.Shape{Most: 3, Classes: 8, Begin: "ab", End: "bab"}}, ""}, {api.Abstract{Kinds: 2, Texts: api.Shape{Least: 200, Most: 999, Classes: -1, Begin: x}}, "'" + x + "'"}, {api.Abstract{Kinds: 2, Texts: api.Shape{Least: 2, Most: 2, Classes: 8, Begin: "a", End: "b"}}, ""}, {api.Abstract{Kinds: 2, Texts: api.Shape{Least: 2, Most: 2, Classes: 8, Begin: "ab", End: "b"}}, "'ab'"}, {abstract.Of(text("it's")), "'it''s'"}, {abstract.Full(1), ""},
		{api.Abstract{Kinds: 2, Texts: api.Shape{Most: 1, Classes: 8, Begin: "ab"}}, ""}, {api.Abstract{Kinds: 2, Texts: api.Shape{Most: 1, Classes: 8, Begin: "a"}, Errs: true}, ""}, {api.Abstract{Kinds: 10, Texts: api.Shape{Most: 1, Classes: 8, Begin: "a"}, Dates: api.Span{Low: 9, High: 1}}, "'a'"}, {api.Abstract{Kinds: 10, Texts: api.Shape{Most: 1, Classes: 8, Begin: "a"}}, ""},
		{api.Abstract{Kinds: 4}, "#0"}, {api.Abstract{Kinds: 4, Numbers: api.Range{Low: api.Dec{N: 10, Scale: 1}, High: api.Dec{Scale: -3}}}, "#0"}, {api.Abstract{Kinds: 4, Numbers: api.Range{High: api.Dec{N: 1, Scale: 6}}}, ""}, {abstract.Of(number(-25, 2)), "#-0.25"}, {api.Abstract{Kinds: 4, Numbers: api.Range{Low: api.Dec{N: 5}, High: api.Dec{N: 5, Scale: 1}}}, ""}, {api.Abstract{Kinds: 6, Numbers: api.Range{Low: api.Dec{N: 5}, High: api.Dec{N: 5}}}, ""}, {abstract.Full(2), ""},
		{api.Abstract{Kinds: 8}, "@0001-01-01"}, {api.Abstract{Kinds: 8, Dates: api.Span{Low: math.MinInt}}, "@0001-01-01"}, {api.Abstract{Kinds: 8, Dates: api.Span{Low: 3652058, High: math.MaxInt}}, "@9999-12-31"}, {api.Abstract{Kinds: 8, Dates: api.Span{Low: 3652057, High: math.MaxInt}}, ""}, {api.Abstract{Kinds: 8, Dates: api.Span{Low: 5, High: 6}}, ""}, {api.Abstract{Kinds: ^54, Dates: api.Span{Low: 5, High: 5}}, "@0001-01-06"}, {abstract.Full(3), ""},
		{api.Abstract{Kinds: 32}, ""}, {abstract.Of(read("[]")), ""}, {abstract.Of(read("[a;#1]")), ""}, {abstract.Full(5), ""}, {abstract.Full(0), ""}, {nothing(), ""}, {everything(), ""}, {api.Abstract{}, ""}, {abstract.Of(failed(0)), ""},
	} {
		got, ok := abstract.Single(c.a)
		if want := (api.Value{}); c.want == "" && (ok || fieldsOfValue(got) != fieldsOfValue(want)) || c.want != "" && (!ok || fieldsOfValue(got) != fieldsOfValue(read(c.want))) {
			t.Errorf("Single(%s) = %s, %t", fields(c.a), fieldsOfValue(got), ok)
		}
		checkSingle(t, c.a)
	}
}

func TestSingleOfSamples(t *testing.T) {
	single := 0
	all := someAbstracts(30000, 10)
	for _, a := range all {
		checkSingle(t, a)
		a.Errs = false
		if checkSingle(t, a) {
			single++
		}
	}
	if single < len(all)/100 || single > len(all)/2 {
		t.Errorf("%d of %d are single", single, len(all))
	}
}

func TestSingleOfValues(t *testing.T) {
	for _, v := range someValues(100, 11) {
		if checkSingle(t, abstract.Of(v)) != (v.Kind != api.None && v.Kind != api.Table) {
			t.Errorf("Single of %s", fieldsOfValue(v))
		}
	}
}
