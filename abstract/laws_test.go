package abstract_test

import (
	"testing"

	"concord/abstract"
	"concord/api"
	"concord/value"
)

// P10.8: the consequences, without another implementation beside the package.

func TestValuesAreContainedInOf(t *testing.T) {
	for _, v := range someValues(5000, 20) {
		a := abstract.Of(v)
		if !abstract.Contains(a, v) || abstract.Empty(a) || !abstract.Within(a, abstract.Full(v.Kind)) {
			t.Fatalf("Of(%s) = %s", fieldsOfValue(v), fields(a))
		}
	}
}

// lawValues returns values, some of which are contained in one of two abstract values, or in both.
func (s *samples) lawValues(a, b api.Abstract) []api.Value {
	l := []api.Value{s.value(), s.otherValue(), failed(0), truth(0), truth(1)}
	for _, x := range []api.Abstract{a, b} {
		l = append(l, api.Value{Kind: api.Number, D: x.Numbers.Low}, api.Value{Kind: api.Number, D: x.Numbers.High}, day(x.Dates.Low), day(x.Dates.High), day(x.Dates.High+1), text(x.Texts.Begin), text(x.Texts.End))
		if cols := abstract.Join(x, x).Cols; len(cols) > 0 {
			l = append(l, tableOf(cols), tableOf(cols, make([]api.Value, len(cols))))
		}
	}
	return l
}

func TestJoinContainsBothAndMeetWhatIsCommon(t *testing.T) {
	s := &samples{state: 21}
	var inBoth, inOne, inNone [6]int
	for range 25000 {
		v := s.value()
		a, b := s.around(v), s.around(v)
		if s.below(3) > 0 {
			a, b = s.pair()
		}
		join, meet := abstract.Join(a, b), abstract.Meet(a, b)
		for _, v := range append(s.lawValues(a, b), v) {
			inA, inB := abstract.Contains(a, v), abstract.Contains(b, v)
			if (inA || inB) && !abstract.Contains(join, v) || abstract.Contains(meet, v) != (inA && inB) {
				t.Fatalf("%s, of %s and %s: Join %s, Meet %s", fieldsOfValue(v), fields(a), fields(b), fields(join), fields(meet))
			}
			switch {
			case v.Kind < 0 || v.Kind > 5:
			case inA && inB:
				inBoth[v.Kind]++
			case inA || inB:
				inOne[v.Kind]++
			default:
				inNone[v.Kind]++
			}
		}
	}
	for kind := range inBoth {
		if inBoth[kind] < 500 || inOne[kind] < 500 || inNone[kind] < 500 {
			t.Errorf("values of the Kind %d: %d are in both, %d in one, %d in none", kind, inBoth[kind], inOne[kind], inNone[kind])
		}
	}
}

func TestWithinOfValues(t *testing.T) {
	s := &samples{state: 22}
	var in [6]int
	for range 40000 {
		v := s.value()
		a, b := s.around(v), s.any()
		if s.below(2) == 0 {
			b = s.around(v)
		}
		if s.below(4) == 0 {
			b = s.change(a)
		}
		if !abstract.Within(a, b) {
			continue
		}
		for _, v := range append(s.lawValues(a, b), v) {
			if abstract.Contains(a, v) && !abstract.Contains(b, v) {
				t.Fatalf("%s is within %s, but not %s", fields(a), fields(b), fieldsOfValue(v))
			}
			if abstract.Contains(a, v) {
				in[v.Kind]++
			}
		}
	}
	for kind, count := range in {
		if count < 500 {
			t.Errorf("%d values of the Kind %d", count, kind)
		}
	}
}

func TestJoinAndMeetAreBounds(t *testing.T) {
	s := &samples{state: 23}
	for range 15000 {
		a, b := s.pair()
		join, meet := abstract.Join(a, b), abstract.Meet(a, b)
		if !abstract.Within(a, join) || !abstract.Within(b, join) || !abstract.Within(meet, a) || !abstract.Within(meet, b) {
			t.Fatalf("%s and %s: Join %s, Meet %s", fields(a), fields(b), fields(join), fields(meet))
		}
		if !abstract.Within(a, a) || !abstract.Within(meet, join) || !abstract.Within(abstract.None(), a) || abstract.Empty(a) != abstract.Within(a, abstract.None()) {
			t.Fatalf("%s and %s: Within", fields(a), fields(b))
		}
	}
}

// TestCanonicalFormContainsTheSame compares an abstract value with what Join and Meet make of it.
func TestCanonicalFormContainsTheSame(t *testing.T) {
	s := &samples{state: 24}
	for range 10000 {
		v := s.value()
		a := s.around(v)
		if s.below(3) == 0 {
			a = s.any()
		}
		form := abstract.Meet(a, a)
		for _, v := range append(s.lawValues(a, form), v) {
			if abstract.Contains(a, v) != abstract.Contains(form, v) {
				t.Fatalf("%s and %s do not both contain %s", fields(a), fields(form), fieldsOfValue(v))
			}
		}
		one, ok := abstract.Single(a)
		other, otherOk := abstract.Single(form)
		if abstract.Text(a) != abstract.Text(form) || abstract.Empty(a) != abstract.Empty(form) || ok != otherOk || !value.Equal(one, other) || !abstract.Within(a, form) || !abstract.Within(form, a) {
			t.Fatalf("%s and %s are not alike", fields(a), fields(form))
		}
		if abstract.Empty(form) != (fields(form) == fields(abstract.None())) {
			t.Fatalf("%s is empty", fields(form))
		}
	}
}

func TestSingleIsTheOnlyValue(t *testing.T) {
	s := &samples{state: 25}
	single := 0
	for _, a := range someAbstracts(20000, 26) {
		a.Errs = a.Errs && s.below(3) == 0
		one, ok := abstract.Single(a)
		if !ok {
			continue
		}
		single++
		if !abstract.Contains(a, one) {
			t.Fatalf("Single(%s) = %s", fields(a), fieldsOfValue(one))
		}
		for _, v := range append(s.lawValues(a, abstract.Of(one)), s.value(), s.value()) {
			if abstract.Contains(a, v) && !value.Equal(v, one) {
				t.Fatalf("Single(%s) = %s, not %s", fields(a), fieldsOfValue(one), fieldsOfValue(v))
			}
		}
	}
	if single < 300 {
		t.Errorf("%d are single", single)
	}
}

// TestOrderMattersForDepsOnly compares Join and Meet in both orders.
func TestOrderMattersForDepsOnly(t *testing.T) {
	s := &samples{state: 27}
	for range 10000 {
		a, b := s.pair()
		for _, both := range [][2]api.Abstract{{abstract.Join(a, b), abstract.Join(b, a)}, {abstract.Meet(a, b), abstract.Meet(b, a)}} {
			x, y := both[0], both[1]
			if !abstract.Within(x, y) || !abstract.Within(y, x) || len(x.Deps) != len(y.Deps) {
				t.Fatalf("%s and %s: %s and %s", fields(a), fields(b), fields(x), fields(y))
			}
			x.Deps, y.Deps = nil, nil
			if fields(x) != fields(y) {
				t.Fatalf("%s and %s: %s and %s", fields(a), fields(b), fields(x), fields(y))
			}
		}
	}
}
