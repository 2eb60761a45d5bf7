package interval_test

import (
	"math"
	"testing"

	"concord/api"
	"concord/interval"
)

// P7.1: Full, Empty, Contains, Within. P7.2: Join, Meet.

func TestFull(t *testing.T) {
	if r := interval.Full(); r != allNumbers() || interval.Empty(r) {
		t.Errorf("Full() = %v", r)
	}
	s := &samples{state: 1}
	for range 1000 {
		if a := s.right(); !interval.Contains(interval.Full(), a) {
			t.Errorf("Full does not contain %v", a)
		}
	}
}

func TestEmpty(t *testing.T) {
	for _, text := range []string{"0", "1", "1..2", "-1..1", "-2..-1", "0.1..0.11", "0.09..0.1", "0.000001..0.000002", "999999999999999..1000000000000000", "-1000000000000000"} {
		if interval.Empty(of(t, text)) {
			t.Errorf("%s is empty", text)
		}
	}
	for _, text := range []string{"1..0", "2..1", "0.11..0.1", "0.1..0.09", "0.000002..0.000001", "1..-1", "-1..-2", "1000000000000000..999999999999999", "1000000000000000..-1000000000000000"} {
		if !interval.Empty(of(t, text)) {
			t.Errorf("%s is not empty", text)
		}
	}
	for _, r := range append(someRanges(5000, 2), smallRanges()...) {
		if interval.Empty(r) != endsOf(r).isEmpty() {
			t.Fatalf("Empty(%v) is %t", r, interval.Empty(r))
		}
	}
}

// TestWrongBoundsCountAsZero has each decimal that is not right as Low and as High.
func TestWrongBoundsCountAsZero(t *testing.T) {
	one, minus := api.Dec{N: 1}, api.Dec{N: -1}
	for _, a := range wrongDecimals() {
		for _, c := range []struct{ r, as api.Range }{
			{api.Range{Low: a, High: a}, api.Range{}}, {api.Range{Low: a, High: one}, api.Range{High: one}}, {api.Range{Low: minus, High: a}, api.Range{Low: minus}}, {api.Range{Low: a, High: minus}, emptyRange()}, {api.Range{Low: one, High: a}, emptyRange()},
		} {
			if interval.Join(c.r, c.r) != c.as || interval.Meet(c.r, c.r) != c.as || interval.Empty(c.r) != (c.as == emptyRange()) || !interval.Within(c.r, c.as) || !interval.Within(c.as, c.r) || interval.Text(c.r) != interval.Text(c.as) {
				t.Errorf("%v is not %v", c.r, c.as)
			}
		}
	}
}

func TestContains(t *testing.T) {
	for _, c := range []struct {
		text string
		a    api.Dec
		want bool
	}{
		{"1..3", api.Dec{N: 1}, true}, {"1..3", api.Dec{N: 3}, true}, {"1..3", api.Dec{N: 25, Scale: 1}, true}, {"1..3", api.Dec{N: 999999, Scale: 6}, false}, {"1..3", api.Dec{N: 3000001, Scale: 6}, false}, {"1..3", api.Dec{N: -2}, false}, {"1..3", api.Dec{}, false},
		{"2..2", api.Dec{N: 2}, true}, {"0..0", api.Dec{}, true}, {"-1..0", api.Dec{}, true}, {"2..1", api.Dec{N: 1}, false}, {"2..1", api.Dec{N: 2}, false}, {"2..1", api.Dec{N: 15, Scale: 1}, false}, {"1..0", api.Dec{}, false},
		{"-1000000000000000..1000000000000000", api.Dec{N: 1000000000000000}, true}, {"-1000000000000000..1000000000000000", api.Dec{N: 1000000000000001}, false}, {"0.3..0.31", api.Dec{N: 305, Scale: 3}, true}, {"0.3..0.31", api.Dec{N: 4, Scale: 1}, false}, {"0.3..0.31", api.Dec{N: 30}, false},
	} {
		if interval.Contains(of(t, c.text), c.a) != c.want {
			t.Errorf("Contains(%s, %v) is %t", c.text, c.a, !c.want)
		}
	}
}

// TestContainsNoWrongDecimals has decimals that count as 0, and would be elements by their values.
func TestContainsNoWrongDecimals(t *testing.T) {
	for _, a := range append(wrongDecimals(), api.Dec{N: 20, Scale: 1}, api.Dec{N: 0, Scale: 1}) {
		for _, r := range []api.Range{{}, interval.Full(), {High: api.Dec{N: 5}}, {Low: a, High: a}} {
			if interval.Contains(r, a) {
				t.Errorf("Contains(%v, %v)", r, a)
			}
		}
	}
}

func TestContainsOfSamples(t *testing.T) {
	s := &samples{state: 3}
	contained := 0
	for _, r := range someRanges(10000, 4) {
		for _, a := range []api.Dec{s.bound(), r.Low, r.High, {N: r.Low.N - 1, Scale: r.Low.Scale}, {N: r.High.N + 1, Scale: r.High.Scale}, {N: r.Low.N + 1, Scale: r.Low.Scale}} {
			want := isRight(a) && endsOf(r).contain(toBig(a))
			if interval.Contains(r, a) != want {
				t.Fatalf("Contains(%v, %v) is %t", r, a, !want)
			}
			if want {
				contained++
			}
		}
	}
	if contained < 20000 || contained > 40000 {
		t.Errorf("%d were contained", contained)
	}
}

// elements returns which of the small decimals are in a range.
func elements(r api.Range) [13]bool {
	var in [13]bool
	for i, a := range smallDecimals() {
		in[i] = interval.Contains(r, a)
	}
	return in
}

// TestSetsOfSmallRanges compares the elements one by one: between each two different bounds there is one of the small decimals that is no bound.
func TestSetsOfSmallRanges(t *testing.T) {
	l := smallRanges()
	for _, a := range l {
		for _, b := range l {
			inA, inB, joined, met := elements(a), elements(b), elements(interval.Join(a, b)), elements(interval.Meet(a, b))
			within := true
			first, last := len(inA), -1
			for i := range inA {
				if inA[i] || inB[i] {
					first, last = min(first, i), i
				}
				within = within && (inB[i] || !inA[i])
				if met[i] != (inA[i] && inB[i]) {
					t.Fatalf("Meet(%v, %v) and %v", a, b, smallDecimals()[i])
				}
			}
			for i := range joined {
				if joined[i] != (first <= i && i <= last) {
					t.Fatalf("Join(%v, %v) and %v", a, b, smallDecimals()[i])
				}
			}
			if interval.Within(a, b) != within {
				t.Fatalf("Within(%v, %v) is %t", a, b, !within)
			}
		}
	}
}

func TestExamplesOfSets(t *testing.T) {
	for _, c := range []struct {
		a, b, join, meet string
		within           bool
	}{
		{"1..3", "2..5", "1..5", "2..3", false}, {"2..5", "1..3", "1..5", "2..3", false}, {"1..3", "4..5", "1..5", "empty", false}, {"1..3", "3..5", "1..5", "3..3", false}, {"2..3", "1..4", "1..4", "2..3", true}, {"1..4", "2..3", "1..4", "2..3", false}, {"1..4", "1..4", "1..4", "1..4", true},
		{"1..4", "1..5", "1..5", "1..4", true}, {"2..4", "1..4", "1..4", "2..4", true}, {"empty", "1..2", "1..2", "empty", true}, {"1..2", "empty", "1..2", "empty", false}, {"9..8", "1..2", "1..2", "empty", true}, {"1..2", "9..8", "1..2", "empty", false}, {"9..8", "5..4", "empty", "empty", true}, {"9..8", "1..10", "1..10", "empty", true}, {"1..10", "9..8", "1..10", "empty", false},
		{"-1..0", "0..1", "-1..1", "0..0", false}, {"0.09..0.1", "0.1..0.11", "0.09..0.11", "0.1..0.1", false}, {"0.5..0.5", "-3..1000000000000000", "-3..1000000000000000", "0.5..0.5", true}, {"0..0.000001", "0.000001..1", "0..1", "0.000001..0.000001", false}, {"0..0.000001", "0.000002..1", "0..1", "empty", false},
	} {
		a, b := of(t, c.a), of(t, c.b)
		if r := interval.Join(a, b); r != of(t, c.join) {
			t.Errorf("Join(%s, %s) = %v", c.a, c.b, r)
		}
		if r := interval.Meet(a, b); r != of(t, c.meet) {
			t.Errorf("Meet(%s, %s) = %v", c.a, c.b, r)
		}
		if interval.Within(a, b) != c.within {
			t.Errorf("Within(%s, %s) is %t", c.a, c.b, !c.within)
		}
	}
}

// joinOf returns the least range that contains both.
func joinOf(a, b ends) ends {
	switch {
	case a.isEmpty():
		return b
	case b.isEmpty():
		return a
	}
	return ends{lesser(a.low, b.low), greater(a.high, b.high)}
}

func meetOf(a, b ends) ends { return ends{greater(a.low, b.low), lesser(a.high, b.high)} }

func TestSetsOfSamples(t *testing.T) {
	l := someRanges(300, 5)
	within := 0
	for _, a := range l {
		for _, b := range l {
			x, y := endsOf(a), endsOf(b)
			if r := interval.Join(a, b); r != joinOf(x, y).toRange(t) {
				t.Fatalf("Join(%v, %v) = %v", a, b, r)
			}
			if r := interval.Meet(a, b); r != meetOf(x, y).toRange(t) {
				t.Fatalf("Meet(%v, %v) = %v", a, b, r)
			}
			want := x.isEmpty() || y.contain(x.low) && y.contain(x.high)
			if interval.Within(a, b) != want {
				t.Fatalf("Within(%v, %v) is %t", a, b, !want)
			}
			if want {
				within++
			}
		}
	}
	if pairs := len(l) * len(l); within < pairs/10 || within > pairs/2 {
		t.Errorf("%d of %d ranges are within others", within, pairs)
	}
}

// TestResultsHaveOneForm has ranges whose bounds have the same values, in other forms or without elements.
func TestResultsHaveOneForm(t *testing.T) {
	for _, c := range []struct{ a, want api.Range }{
		{api.Range{Low: api.Dec{N: 10, Scale: 1}, High: api.Dec{N: 5}}, api.Range{High: api.Dec{N: 5}}}, {api.Range{Low: api.Dec{Scale: 3}, High: api.Dec{Scale: 6}}, api.Range{}}, {api.Range{Low: api.Dec{N: math.MaxInt}}, api.Range{}},
		{api.Range{Low: api.Dec{N: 3}, High: api.Dec{N: 2}}, emptyRange()}, {api.Range{Low: api.Dec{N: 5}, High: api.Dec{N: 60, Scale: 1}}, emptyRange()}, {api.Range{Low: api.Dec{Scale: -1}, High: api.Dec{N: -1, Scale: 6}}, emptyRange()},
	} {
		for _, b := range []api.Range{c.a, c.want} {
			if join, meet := interval.Join(c.a, b), interval.Meet(b, c.a); join != c.want || meet != c.want {
				t.Errorf("Join and Meet of %v and %v = %v, %v", c.a, b, join, meet)
			}
		}
		if join, other := interval.Join(c.a, emptyRange()), interval.Join(emptyRange(), c.a); join != c.want || other != c.want {
			t.Errorf("Join of %v and the empty range = %v, %v", c.a, join, other)
		}
		if meet, other := interval.Meet(c.a, allNumbers()), interval.Meet(allNumbers(), c.a); meet != c.want || other != c.want {
			t.Errorf("Meet of %v and all numbers = %v, %v", c.a, meet, other)
		}
	}
}
