package decimal_test

import (
	"math/big"
	"testing"

	"concord/api"
	"concord/decimal"
)

// P4.3: Add, Sub, Mul.

// operation is one of the three calls, and what it computes.
type operation struct {
	name  string
	call  func(a, b api.Dec) (api.Dec, bool)
	exact func(z, a, b *big.Rat) *big.Rat
}

func operations() []operation {
	return []operation{{"Add", decimal.Add, (*big.Rat).Add}, {"Sub", decimal.Sub, (*big.Rat).Sub}, {"Mul", decimal.Mul, (*big.Rat).Mul}}
}

// checkOperation compares the result of a call, and reports whether it fits.
func checkOperation(t *testing.T, o operation, a, b api.Dec) bool {
	t.Helper()
	c, ok := o.call(a, b)
	return check(t, o.name, c, ok, o.exact(new(big.Rat), toBig(a), toBig(b)), a, b)
}

func TestExamplesOfArithmetic(t *testing.T) {
	add, sub, mul := decimal.Add, decimal.Sub, decimal.Mul
	for _, c := range []struct {
		call       func(a, b api.Dec) (api.Dec, bool)
		a, b, want string
	}{
		{add, "0.1", "0.2", "0.3"}, {add, "0", "0", "0"}, {add, "0.5", "0.5", "1"}, {add, "9.5", "0.5", "10"}, {add, "-0.25", "0.25", "0"}, {add, "0.000001", "0.999999", "1"}, {add, "1", "0.000001", "1.000001"},
		{add, "999999999999999", "1", "1000000000000000"}, {add, "99999999999999.5", "0.5", "100000000000000"}, {add, "999999999.999999", "0.000001", "1000000000"}, {add, "1000000000000000", "-999999999999999", "1"},
		{add, "49999999999999.9", "49999999999999.9", "99999999999999.8"}, {add, "-999999999.999999", "1000000000", "0.000001"},
		{sub, "1", "1", "0"}, {sub, "0", "0.5", "-0.5"}, {sub, "0.3", "0.1", "0.2"}, {sub, "1", "0.1", "0.9"}, {sub, "-999999999999999", "1", "-1000000000000000"}, {sub, "1.5", "-0.5", "2"},
		{mul, "1.5", "0.4", "0.6"}, {mul, "0.001", "0.001", "0.000001"}, {mul, "-2.5", "4", "-10"}, {mul, "-0.5", "-0.2", "0.1"}, {mul, "0", "-5", "0"}, {mul, "0.0002", "0.005", "0.000001"}, {mul, "0.000064", "0.015625", "0.000001"},
		{mul, "1000000000000000", "0.000001", "1000000000"}, {mul, "31250000", "32000000", "1000000000000000"}, {mul, "0.000002", "500000", "1"}, {mul, "999999999999999", "-1", "-999999999999999"}, {mul, "488281.25", "0.000512", "250"}, {mul, "100000000000000", "10", "1000000000000000"},
	} {
		a, ok := c.call(of(t, c.a), of(t, c.b))
		if a != of(t, c.want) || !ok {
			t.Errorf("%s and %s give %v, %t, not %s", c.a, c.b, a, ok, c.want)
		}
	}
}

// TestArithmeticThatDoesNotFit has results with too many places, with too many units, and with both.
func TestArithmeticThatDoesNotFit(t *testing.T) {
	add, sub, mul := decimal.Add, decimal.Sub, decimal.Mul
	for _, c := range []struct {
		call func(a, b api.Dec) (api.Dec, bool)
		a, b string
	}{
		{add, "1000000000000000", "1"}, {add, "-1000000000000000", "-1"}, {add, "1000000000000000", "1000000000000000"}, {add, "1000000000000000", "-0.5"}, {add, "100000000000000", "0.5"}, {add, "1000000000", "0.000001"}, {add, "1000000000000000", "0.000001"}, {add, "-1000000000000000", "0.000001"}, {add, "99999999999999.9", "99999999999999.9"},
		{sub, "-1000000000000000", "1"}, {sub, "1000000000000000", "0.1"}, {sub, "1000000000000000", "-1"}, {sub, "-99999999999999.9", "0.2"},
		{mul, "0.001", "0.0001"}, {mul, "0.000001", "0.1"}, {mul, "0.000003", "0.5"}, {mul, "1000000000000000", "2"}, {mul, "1000000000000000", "1000000000000000"}, {mul, "-31250001", "32000000"}, {mul, "999999999.999999", "999999999.999999"}, {mul, "4294967296", "4294967296"}, {mul, "3037000500", "3037000500"}, {mul, "33333333.3", "30000000.3"}, {mul, "0.999999", "999999999.999999"},
	} {
		a, ok := c.call(of(t, c.a), of(t, c.b))
		checkNone(t, "a call", a, ok, c.a, c.b)
	}
}

func TestArithmeticOfSmallDecimals(t *testing.T) {
	l := smallDecimals(21)
	for _, o := range operations() {
		fits := 0
		for _, a := range l {
			for _, b := range l {
				if checkOperation(t, o, a, b) {
					fits++
				}
			}
		}
		if pairs := len(l) * len(l); fits == 0 || o.name == "Mul" && fits == pairs || o.name != "Mul" && fits != pairs {
			t.Errorf("%s: %d of %d results fit", o.name, fits, pairs)
		}
	}
}

func TestArithmeticOfSamples(t *testing.T) {
	const tries = 60000
	for i, o := range operations() {
		s := &samples{state: uint64(10 + i)}
		fits := 0
		for range tries {
			if checkOperation(t, o, s.any(), s.any()) {
				fits++
			}
		}
		if fits < tries/10 || fits > tries*9/10 {
			t.Errorf("%s: %d of %d results fit", o.name, fits, tries)
		}
	}
}

// TestSumsNextToLimit has pairs whose sum or difference is next to the greatest number of units of some scale.
func TestSumsNextToLimit(t *testing.T) {
	s := &samples{state: 20}
	for range 20000 {
		a := s.right()
		scale := s.below(7)
		limit := &big.Rat{}
		limit.Sub(quotient(api.MaxUnits+s.below(7)-3, scale), toBig(a))
		b, ok := fit(limit)
		if !ok {
			continue
		}
		minus := api.Dec{N: -b.N, Scale: b.Scale}
		checkOperation(t, operations()[0], a, b)
		checkOperation(t, operations()[1], a, minus)
		checkOperation(t, operations()[1], minus, a)
	}
}

// TestProductsOfDivisors has pairs whose product has as few places, or as few units, as is possible: each is a part of 10^k times some number.
func TestProductsOfDivisors(t *testing.T) {
	for twos := range 21 {
		for fives := range 21 {
			a, aFits := fit(new(big.Rat).SetFrac(raised(2, twos), power(6)))
			b, bFits := fit(new(big.Rat).SetFrac(raised(5, fives), power(6)))
			if !aFits || !bFits {
				continue
			}
			for by := range 5 {
				checkOperation(t, operations()[2], a, b)
				checkOperation(t, operations()[2], b, api.Dec{N: -a.N, Scale: max(0, a.Scale-by)})
				checkOperation(t, operations()[2], api.Dec{N: a.N + by - 2, Scale: a.Scale}, b)
			}
		}
	}
}

// TestProductsNextToLimit has pairs of whole numbers whose product is next to MaxUnits, or next to an int's limits.
func TestProductsNextToLimit(t *testing.T) {
	s := &samples{state: 21}
	for range 20000 {
		x := 1 + s.units()
		for _, limit := range []int{api.MaxUnits, 1<<63 - 1, 1 << 62, 1 << 32} {
			y := min(limit/x, api.MaxUnits-1)
			a := api.Dec{N: x, Scale: s.below(7)}
			b := api.Dec{N: y + s.below(3) - 1, Scale: s.below(7)}
			checkOperation(t, operations()[2], a, b)
			checkOperation(t, operations()[2], api.Dec{N: -b.N, Scale: b.Scale}, api.Dec{N: a.N})
		}
	}
}

// raised returns base^n.
func raised(base, n int) *big.Int {
	return new(big.Int).Exp(big.NewInt(int64(base)), big.NewInt(int64(n)), nil)
}

func TestArithmeticOfDecimalsThatAreNotRight(t *testing.T) {
	wrong := wrongDecimals()
	right := []api.Dec{{}, {N: 1}, {N: -15, Scale: 1}, {N: 1, Scale: 6}, {N: api.MaxUnits}, {N: -api.MaxUnits}}
	for _, o := range operations() {
		for i, a := range wrong {
			for _, b := range append(right, wrong[len(wrong)-1-i]) {
				checkOperation(t, o, a, b)
				checkOperation(t, o, b, a)
			}
		}
	}
}
