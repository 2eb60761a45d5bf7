package interval_test

import (
	"math/big"
	"testing"

	"concord/api"
	"concord/interval"
)

// P7.4: Round. P7.5: Less. P7.6: Text.

// rounded returns the multiple of 10^-scale that is nearest to value, of two the one that is farther from 0.
func rounded(value *big.Rat, scale int) *big.Rat {
	units := new(big.Rat).Mul(value, new(big.Rat).SetInt(power(scale)))
	whole := floor(new(big.Rat).Add(new(big.Rat).Abs(units), big.NewRat(1, 2)))
	if value.Sign() < 0 {
		whole.Neg(whole)
	}
	return new(big.Rat).SetFrac(whole, power(scale))
}

func TestExamplesOfRound(t *testing.T) {
	for _, c := range []struct {
		a     string
		scale int
		want  string
	}{
		{"0.25..0.349", 1, "0.3"}, {"-1.5..1.5", 0, "-2..2"}, {"-1.4..1.4", 0, "-1..1"}, {"1.4..1.6", 0, "1..2"}, {"-1.6..-1.4", 0, "-2..-1"}, {"-0.25..0.25", 1, "-0.3..0.3"}, {"1..2", 0, "1..2"}, {"0.123456..0.234567", 6, "0.123456..0.234567"}, {"0.123456..0.234567", 5, "0.12346..0.23457"}, {"0.123456..0.234567", 3, "0.123..0.235"},
		{"999999999.999999", 5, "1000000000"}, {"-1000000000000000..1000000000000000", 6, "-1000000000000000..1000000000000000"}, {"-1000000000000000..1000000000000000", 0, "-1000000000000000..1000000000000000"}, {"-0.4..0.4", 0, "0"}, {"1..0", 3, "empty"}, {"5..4", 0, "empty"}, {"0.4..0.3", 0, "empty"},
	} {
		if r, ok := interval.Round(of(t, c.a), c.scale); r != of(t, c.want) || !ok {
			t.Errorf("Round(%s, %d) = %v, %t, not %s", c.a, c.scale, r, ok, c.want)
		}
	}
}

func TestRoundOfSamples(t *testing.T) {
	for _, r := range append(someRanges(4000, 30), smallRanges()...) {
		for scale := range 7 {
			e := endsOf(r)
			want := emptyRange()
			if !e.isEmpty() {
				want = ends{rounded(e.low, scale), rounded(e.high, scale)}.toRange(t)
			}
			if got, ok := interval.Round(r, scale); got != want || !ok {
				t.Fatalf("Round(%v, %d) = %v, %t, not %v", r, scale, got, ok, want)
			}
		}
	}
}

func TestRoundToOtherScales(t *testing.T) {
	for _, scale := range extremeScales() {
		for _, r := range someRanges(50, 31) {
			if got, ok := interval.Round(r, scale); got != emptyRange() || ok {
				t.Errorf("Round(%v, %d) = %v, %t", r, scale, got, ok)
			}
		}
	}
}

func TestExamplesOfLess(t *testing.T) {
	for _, c := range []struct {
		a, b      string
		can, must bool
	}{
		{"1..2", "2..3", true, false}, {"1..1", "2..3", true, true}, {"1..1.999999", "2..3", true, true}, {"3..4", "1..2", false, false}, {"2..2", "2..2", false, false}, {"1..2", "1..2", true, false}, {"2..3", "1..2", false, false}, {"2..3", "1..2.000001", true, false}, {"-2..-1", "0..0", true, true}, {"-1..0", "0..1", true, false}, {"0..5", "1..2", true, false}, {"1..2", "0..5", true, false},
		{"empty", "1..2", false, true}, {"1..2", "empty", false, true}, {"empty", "empty", false, true}, {"9..8", "1..1", false, true}, {"1..1", "9..8", false, true}, {"5..4", "1..2", false, true}, {"0..1", "5..4", false, true}, {"9..1", "5..5", false, true},
		{"-1000000000000000", "1000000000000000", true, true}, {"-1000000000000000..1000000000000000", "-1000000000000000..1000000000000000", true, false}, {"0.02", "0.1", true, true}, {"0.1", "0.02", false, false},
	} {
		if can, must := interval.Less(of(t, c.a), of(t, c.b)); can != c.can || must != c.must {
			t.Errorf("Less(%s, %s) = %t, %t", c.a, c.b, can, must)
		}
	}
}

// TestLessOfSmallRanges compares elements two by two, and what is between the bounds by the bounds, which are elements.
func TestLessOfSmallRanges(t *testing.T) {
	numbers := smallDecimals()
	l := smallRanges()
	for _, a := range l {
		for _, b := range l {
			can, must := false, true
			for i, x := range numbers {
				for k, y := range numbers {
					if !interval.Contains(a, x) || !interval.Contains(b, y) {
						continue
					}
					can = can || i < k
					must = must && i < k
				}
			}
			if gotCan, gotMust := interval.Less(a, b); gotCan != can || gotMust != must {
				t.Fatalf("Less(%v, %v) = %t, %t", a, b, gotCan, gotMust)
			}
		}
	}
}

func TestLessOfSamples(t *testing.T) {
	l := someRanges(300, 32)
	for _, a := range l {
		for _, b := range l {
			x, y := endsOf(a), endsOf(b)
			empty := x.isEmpty() || y.isEmpty()
			can, must := interval.Less(a, b)
			if can != (!empty && x.low.Cmp(y.high) < 0) || must != (empty || x.high.Cmp(y.low) < 0) {
				t.Fatalf("Less(%v, %v) = %t, %t", a, b, can, must)
			}
		}
	}
}

func TestExamplesOfText(t *testing.T) {
	for _, c := range []struct {
		r    api.Range
		want string
	}{
		{api.Range{}, "0..0"}, {emptyRange(), "empty"}, {api.Range{Low: api.Dec{N: 2}, High: api.Dec{N: 1}}, "empty"}, {api.Range{Low: api.Dec{N: -5, Scale: 1}, High: api.Dec{N: 25, Scale: 1}}, "-0.5..2.5"}, {api.Range{Low: api.Dec{N: 7}, High: api.Dec{N: 7}}, "7..7"}, {api.Range{Low: api.Dec{N: -2}, High: api.Dec{N: -1}}, "-2..-1"}, {api.Range{Low: api.Dec{N: 1, Scale: 6}, High: api.Dec{N: 10}}, "0.000001..10"},
		{api.Range{Low: api.Dec{N: -1000000000000000}, High: api.Dec{N: 1000000000000000}}, "-1000000000000000..1000000000000000"}, {api.Range{Low: api.Dec{N: 20, Scale: 1}, High: api.Dec{N: 3}}, "0..3"}, {api.Range{Low: api.Dec{N: -3}, High: api.Dec{N: 1, Scale: 7}}, "-3..0"}, {api.Range{Low: api.Dec{N: 1}, High: api.Dec{N: 20, Scale: 1}}, "empty"}, {api.Range{Low: api.Dec{N: 10, Scale: 1}, High: api.Dec{N: 1, Scale: 7}}, "0..0"},
	} {
		if got := interval.Text(c.r); got != c.want {
			t.Errorf("Text(%v) = %q", c.r, got)
		}
	}
}

// textOf returns the text of a number with at most 6 places.
func textOf(value *big.Rat) string {
	for places := range 6 {
		short := new(big.Rat)
		short.SetString(value.FloatString(places))
		if short.Cmp(value) == 0 {
			return value.FloatString(places)
		}
	}
	return value.FloatString(6)
}

func TestTextOfSamples(t *testing.T) {
	for _, r := range append(someRanges(5000, 33), smallRanges()...) {
		want, e := "empty", endsOf(r)
		if !e.isEmpty() {
			want = textOf(e.low) + ".." + textOf(e.high)
		}
		if got := interval.Text(r); got != want {
			t.Fatalf("Text(%v) = %q, not %q", r, got, want)
		}
	}
}
