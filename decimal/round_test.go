package decimal_test

import (
	"math/big"
	"testing"

	"concord/api"
	"concord/decimal"
)

// P4.4: Round.

// rounded returns the multiple of 10^-scale that is nearest to value, of two the one that is farther from 0.
func rounded(value *big.Rat, scale int) *big.Rat {
	units := new(big.Rat).Mul(value, new(big.Rat).SetInt(power(scale)))
	distance := new(big.Rat).Abs(units)
	distance.Add(distance, big.NewRat(1, 2))
	whole := new(big.Int).Quo(distance.Num(), distance.Denom())
	if value.Sign() < 0 {
		whole.Neg(whole)
	}
	return new(big.Rat).SetFrac(whole, power(scale))
}

// checkRound compares the results for all scales; each of them fits.
func checkRound(t *testing.T, a api.Dec) {
	t.Helper()
	for scale := range 7 {
		b, ok := decimal.Round(a, scale)
		if !check(t, "Round", b, ok, rounded(toBig(a), scale), a, scale) {
			t.Fatalf("Round(%v, %d) does not fit", a, scale)
		}
	}
}

func TestExamplesOfRound(t *testing.T) {
	for _, c := range []struct {
		a     string
		scale int
		want  string
	}{
		{"2.345", 2, "2.35"}, {"-2.345", 2, "-2.35"}, {"2.5", 0, "3"}, {"-2.5", 0, "-3"}, {"2.4", 0, "2"}, {"-2.4", 0, "-2"}, {"2.6", 0, "3"}, {"0.5", 0, "1"}, {"-0.5", 0, "-1"}, {"0.4", 0, "0"}, {"-0.4", 0, "0"}, {"0.499999", 0, "0"}, {"-0.500001", 0, "-1"},
		{"0.05", 1, "0.1"}, {"0.04", 1, "0"}, {"0.95", 1, "1"}, {"9.95", 1, "10"}, {"1.995", 2, "2"}, {"0.000001", 5, "0"}, {"0.000005", 5, "0.00001"}, {"1.999999", 5, "2"}, {"1.5", 1, "1.5"}, {"1.5", 3, "1.5"}, {"1.5", 6, "1.5"}, {"7", 0, "7"}, {"70", 6, "70"}, {"0", 0, "0"}, {"0", 6, "0"},
		{"1000000000000000", 0, "1000000000000000"}, {"-1000000000000000", 6, "-1000000000000000"}, {"99999999999999.9", 0, "100000000000000"}, {"999999999.999999", 0, "1000000000"}, {"-999999999.999999", 3, "-1000000000"}, {"999999999.499999", 0, "999999999"}, {"444444444.444445", 5, "444444444.44445"},
	} {
		b, ok := decimal.Round(of(t, c.a), c.scale)
		if b != of(t, c.want) || !ok {
			t.Errorf("Round(%s, %d) = %v, %t, not %s", c.a, c.scale, b, ok, c.want)
		}
	}
}

func TestRoundOfSmallDecimals(t *testing.T) {
	for _, a := range smallDecimals(1200) {
		checkRound(t, a)
	}
}

// TestRoundOfSamples also has decimals that are next to the middle of two multiples.
func TestRoundOfSamples(t *testing.T) {
	s := &samples{state: 30}
	for range 10000 {
		a := s.any()
		checkRound(t, a)
		unit := tenTo(1 + s.below(6))
		middle := a.N/unit*unit + unit/2 + s.below(3) - 1
		checkRound(t, api.Dec{N: middle, Scale: 6})
		checkRound(t, api.Dec{N: -middle, Scale: 1 + s.below(6)})
	}
}

func TestRoundToOtherScales(t *testing.T) {
	s := &samples{state: 31}
	for _, scale := range extremeScales() {
		for _, a := range []api.Dec{{}, {N: 1}, {N: 15, Scale: 1}, {N: -1, Scale: 6}, {N: api.MaxUnits}, {N: 10, Scale: 1}, {N: 1, Scale: scale}, s.any(), s.any()} {
			b, ok := decimal.Round(a, scale)
			checkNone(t, "Round", b, ok, a, scale)
		}
	}
}

func TestRoundOfDecimalsThatAreNotRight(t *testing.T) {
	for _, a := range wrongDecimals() {
		for scale := range 7 {
			if b, ok := decimal.Round(a, scale); b != (api.Dec{}) || !ok {
				t.Fatalf("Round(%v, %d) = %v, %t", a, scale, b, ok)
			}
		}
	}
}
