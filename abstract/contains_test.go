package abstract_test

import (
	"math"
	"strings"
	"testing"

	"concord/abstract"
	"concord/api"
)

// P10.2: Empty, Contains.

// checkEmpty compares the result of Empty, and returns it.
func checkEmpty(t *testing.T, a api.Abstract) bool {
	t.Helper()
	want := wantedEmpty(a)
	if abstract.Empty(a) != want {
		t.Fatalf("Empty(%s) is not %t", fields(a), want)
	}
	return want
}

func TestExamplesOfEmpty(t *testing.T) {
	nine := names("a", "b", "c", "d", "e", "f", "g", "h", "i")
	for _, c := range []struct {
		a    api.Abstract
		want bool
	}{
		{nothing(), true}, {everything(), false}, {api.Abstract{}, true}, {api.Abstract{Errs: true}, false}, {api.Abstract{Kinds: 1}, true}, {api.Abstract{Kinds: -1}, false}, {api.Abstract{Kinds: 64 | 1}, true},
		{api.Abstract{Kinds: 2}, false}, {api.Abstract{Kinds: 2, Texts: api.Shape{Least: 1}}, true}, {api.Abstract{Kinds: 2, Texts: api.Shape{Least: 1, Most: 3}}, true}, {api.Abstract{Kinds: 2, Texts: api.Shape{Least: 1, Most: 3, Classes: 2}}, false}, {api.Abstract{Kinds: 60, Texts: api.Shape{Most: 3}, Bools: 4, Dates: api.Span{Low: 1}, Numbers: api.Range{Low: api.Dec{N: 1}}, Rows: api.Span{Low: 1}}, true},
		{api.Abstract{Kinds: 4}, false}, {api.Abstract{Kinds: 4, Numbers: api.Range{Low: api.Dec{N: 1}}}, true}, {api.Abstract{Kinds: 4, Numbers: api.Range{Low: api.Dec{N: 10, Scale: 1}}}, false}, {api.Abstract{Kinds: 4, Numbers: api.Range{High: api.Dec{N: -1, Scale: 6}}}, true},
		{api.Abstract{Kinds: 8}, false}, {api.Abstract{Kinds: 8, Dates: api.Span{Low: 2, High: 1}}, true}, {api.Abstract{Kinds: 8, Dates: api.Span{Low: -2, High: -1}}, true}, {api.Abstract{Kinds: 8, Dates: api.Span{Low: 3652059, High: math.MaxInt}}, true}, {api.Abstract{Kinds: 8, Dates: api.Span{Low: 3652058, High: math.MaxInt}}, false}, {api.Abstract{Kinds: 8, Dates: api.Span{Low: math.MinInt}}, false},
		{api.Abstract{Kinds: 16}, true}, {api.Abstract{Kinds: 16, Bools: 1}, false}, {api.Abstract{Kinds: 16, Bools: 2}, false}, {api.Abstract{Kinds: 16, Bools: 3}, false}, {api.Abstract{Kinds: 16, Bools: 4}, true}, {api.Abstract{Kinds: 16, Bools: math.MinInt}, true},
		{api.Abstract{Kinds: 32}, false}, {api.Abstract{Kinds: 32, Rows: api.Span{Low: 1}}, true}, {api.Abstract{Kinds: 32, Rows: api.Span{Low: -9, High: -1}}, true}, {api.Abstract{Kinds: 32, Rows: api.Span{Low: 101, High: 200}}, true}, {api.Abstract{Kinds: 32, Rows: api.Span{Low: 100, High: 200}}, false},
		{api.Abstract{Kinds: 32, Cols: nine}, true}, {api.Abstract{Kinds: 32, Cols: nine[1:]}, false}, {api.Abstract{Kinds: 32, Cols: append(nine[:8:8], nine[:8]...)}, false}, {api.Abstract{Kinds: 32, Cols: names("a", "9")}, true}, {api.Abstract{Kinds: 32, Cols: names("")}, true}, {api.Abstract{Kinds: 32, Cols: names(strings.Repeat("z", 20))}, false}, {api.Abstract{Kinds: 32, Cols: names(strings.Repeat("z", 21))}, true},
		// No table is contained in this one, but its part is not empty.
		{api.Abstract{Kinds: 32, Deps: deps("9>9")}, false},
		{api.Abstract{Kinds: 16, Texts: api.Shape{Most: 3}, Numbers: everything().Numbers, Dates: everything().Dates, Rows: everything().Rows}, true},
	} {
		if abstract.Empty(c.a) != c.want || wantedEmpty(c.a) != c.want {
			t.Errorf("Empty(%s) is not %t", fields(c.a), c.want)
		}
	}
}

func TestEmptyOfSamples(t *testing.T) {
	empty := 0
	all := someAbstracts(20000, 3)
	for _, a := range all {
		if checkEmpty(t, a) {
			empty++
		}
		a.Errs = false
		checkEmpty(t, a)
	}
	if empty < len(all)/50 || empty > len(all)/2 {
		t.Errorf("%d of %d are empty", empty, len(all))
	}
}

// checkContains compares the result of Contains, and returns it.
func checkContains(t *testing.T, a api.Abstract, v api.Value) bool {
	t.Helper()
	want := wantedContains(a, v)
	if abstract.Contains(a, v) != want {
		t.Fatalf("Contains(%s, %s) is not %t", fields(a), fieldsOfValue(v), want)
	}
	return want
}

func TestExamplesOfContains(t *testing.T) {
	all := everything()
	for _, c := range []struct {
		a    api.Abstract
		v    string
		want bool
	}{
		{abstract.Full(2), "#3", true}, {abstract.Full(2), "'3'", false}, {abstract.Full(2), "!3", false}, {abstract.Full(0), "!3", true}, {abstract.Full(0), "!0", true}, {api.Abstract{Kinds: 1}, "!0", false}, {api.Abstract{Kinds: -1}, "!5", false}, {all, "!5", true},
		{api.Abstract{Kinds: -1}, "''", true}, {api.Abstract{Kinds: ^2}, "''", false}, {api.Abstract{Kinds: 2, Texts: api.Shape{Most: 2, Classes: 8, Begin: "a"}}, "'ab'", true}, {api.Abstract{Kinds: 2, Texts: api.Shape{Most: 2, Classes: 8, Begin: "a"}}, "'b'", false},
		{api.Abstract{Kinds: -1}, "#0", true}, {api.Abstract{Kinds: ^4}, "#0", false}, {api.Abstract{Kinds: 4, Numbers: api.Range{Low: api.Dec{N: 5, Scale: 1}, High: api.Dec{N: 1}}}, "#0.75", true}, {api.Abstract{Kinds: 4, Numbers: api.Range{Low: api.Dec{N: 5, Scale: 1}, High: api.Dec{N: 1}}}, "#0.49", false},
		{api.Abstract{Kinds: 8, Dates: api.Span{Low: 3, High: 5}}, "@0001-01-03", false}, {api.Abstract{Kinds: 8, Dates: api.Span{Low: 3, High: 5}}, "@0001-01-04", true}, {api.Abstract{Kinds: 8, Dates: api.Span{Low: 3, High: 5}}, "@0001-01-06", true}, {api.Abstract{Kinds: 8, Dates: api.Span{Low: 3, High: 5}}, "@0001-01-07", false}, {api.Abstract{Kinds: ^8, Dates: api.Span{Low: 3, High: 5}}, "@0001-01-06", false}, {api.Abstract{Kinds: 8, Dates: api.Span{Low: math.MinInt, High: math.MaxInt}}, "@0001-01-06", true},
		{api.Abstract{Kinds: 16, Bools: 1}, "?0", true}, {api.Abstract{Kinds: 16, Bools: 1}, "?1", false}, {api.Abstract{Kinds: 16, Bools: 2}, "?0", false}, {api.Abstract{Kinds: 16, Bools: -2}, "?1", true}, {api.Abstract{Kinds: ^16, Bools: 3}, "?1", false}, {api.Abstract{Kinds: 16, Bools: 4}, "?1", false},
		{tables(1, 2, "", ""), "[a;#1;#2]", true}, {tables(1, 1, "", ""), "[a;#1;#2]", false}, {tables(3, 9, "", ""), "[a;#1;#2]", false}, {tables(0, 9, "a", ""), "[a;#1;#2]", true}, {tables(0, 9, "aa", ""), "[b,a;#1,#2]", true}, {tables(0, 9, "ab", ""), "[a;#1;#2]", false}, {tables(0, 9, "b", ""), "[a;#1;#2]", false},
		{tables(0, 9, "", "a>b"), "[a,b;#1,#2;#1,#2]", true}, {tables(0, 9, "", "a>b"), "[a,b;#1,#2;#1,#3]", false}, {tables(0, 9, "", "a>b b>a"), "[a,b;#1,#2;#3,#2]", false}, {tables(0, 9, "", ">b"), "[a,b;#1,#2;#3,#2]", true}, {tables(0, 9, "", "a>b"), "[a]", false}, {tables(0, 9, "", "a>a"), "[a;#1]", true}, {tables(0, 9, "", "a>a"), "[b;#1]", false}, {api.Abstract{Kinds: ^32, Rows: api.Span{High: 9}}, "[]", false}, {api.Abstract{Kinds: 32, Rows: api.Span{Low: math.MinInt, High: math.MaxInt}}, "[;]", true},
		{api.Abstract{Kinds: 32, Rows: api.Span{High: 9}, Cols: names("9")}, "[]", false}, {api.Abstract{Kinds: 32, Rows: api.Span{High: 9}, Cols: names("")}, "[a]", false},
	} {
		v := read(c.v)
		if abstract.Contains(c.a, v) != c.want || wantedContains(c.a, v) != c.want {
			t.Errorf("Contains(%s, %s) is not %t", fields(c.a), c.v, c.want)
		}
	}
}

func TestContainsOfSamples(t *testing.T) {
	s := &samples{state: 4}
	var in, out [6]int
	const tries = 40000
	for range tries {
		v := s.value()
		a := s.any()
		if s.below(2) == 0 {
			a = s.around(v)
		}
		if s.below(3) == 0 {
			a = s.change(a)
		}
		if checkContains(t, a, v) {
			in[v.Kind]++
		} else {
			out[v.Kind]++
		}
	}
	for kind := range in {
		if in[kind] < tries/20 || out[kind] < tries/100 {
			t.Errorf("%d values of the Kind %d are contained, %d are not", in[kind], kind, out[kind])
		}
	}
}

func TestContainsOfAllForms(t *testing.T) {
	values := someValues(60, 5)
	for _, a := range someAbstracts(300, 6) {
		for _, v := range values {
			checkContains(t, a, v)
		}
		for _, v := range wrongValues() {
			if abstract.Contains(a, v) {
				t.Fatalf("Contains(%s, %s)", fields(a), fieldsOfValue(v))
			}
		}
	}
}
