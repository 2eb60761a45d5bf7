package interval_test

import (
	"math/big"
	"testing"

	"concord/api"
	"concord/interval"
)

// P7.3: Add, Sub, Mul.

// operation is one of the three calls, and what it computes.
type operation struct {
	name  string
	call  func(a, b api.Range) (api.Range, bool)
	exact func(z, a, b *big.Rat) *big.Rat
	sums  bool
}

func operations() []operation {
	return []operation{{"Add", interval.Add, (*big.Rat).Add, true}, {"Sub", interval.Sub, (*big.Rat).Sub, true}, {"Mul", interval.Mul, (*big.Rat).Mul, false}}
}

// floor returns the greatest whole number that is not greater than value.
func floor(value *big.Rat) *big.Int {
	return new(big.Int).Div(value.Num(), value.Denom())
}

// nearestBelow returns the greatest right decimal that is not greater than value, or -10^15: the greatest one of those with each number of places.
func nearestBelow(value *big.Rat) *big.Rat {
	most := big.NewInt(api.MaxUnits)
	nearest := quotient(-api.MaxUnits, 0)
	for scale := range 7 {
		units := floor(new(big.Rat).Mul(value, new(big.Rat).SetInt(power(scale))))
		if units.Cmp(most) > 0 {
			units = most
		}
		if units.CmpAbs(most) <= 0 {
			nearest = greater(nearest, new(big.Rat).SetFrac(units, power(scale)))
		}
	}
	return nearest
}

// boundsOf returns the bounds of two exact numbers.
func boundsOf(x, y *big.Rat) ends {
	above := nearestBelow(new(big.Rat).Neg(y))
	return ends{nearestBelow(x), above.Neg(above)}
}

// wanted returns what a call has to return for two ranges.
func (o operation) wanted(t *testing.T, a, b api.Range) (api.Range, bool) {
	t.Helper()
	x, y := endsOf(a), endsOf(b)
	if x.isEmpty() || y.isEmpty() {
		return emptyRange(), true
	}
	least := o.exact(new(big.Rat), x.low, y.low)
	greatest := least
	for _, other := range []*big.Rat{o.exact(new(big.Rat), x.low, y.high), o.exact(new(big.Rat), x.high, y.low), o.exact(new(big.Rat), x.high, y.high)} {
		least, greatest = lesser(least, other), greater(greatest, other)
	}
	_, fits := fit(least)
	single := x.low.Cmp(x.high) == 0 && y.low.Cmp(y.high) == 0
	inner := ends{quotient(-1000000000, 0), quotient(1000000000, 0)}
	return boundsOf(least, greatest).toRange(t), single && fits || o.sums && inner.contain(least) && inner.contain(greatest)
}

// check compares the results of a call, and returns the boolean.
func (o operation) check(t *testing.T, a, b api.Range) bool {
	t.Helper()
	r, all := o.call(a, b)
	if want, wantAll := o.wanted(t, a, b); r != want || all != wantAll {
		t.Fatalf("%s(%v, %v) = %v, %t, not %v, %t", o.name, a, b, r, all, want, wantAll)
	}
	return all
}

func TestExamplesOfArithmetic(t *testing.T) {
	add, sub, mul := interval.Add, interval.Sub, interval.Mul
	for _, c := range []struct {
		call       func(a, b api.Range) (api.Range, bool)
		a, b, want string
		all        bool
	}{
		{add, "1..2", "-0.5..0.5", "0.5..2.5", true}, {add, "1..2", "10..20", "11..22", true}, {add, "0", "0", "0", true}, {add, "empty", "1..2", "empty", true}, {add, "1..2", "2..1", "empty", true}, {add, "9..8", "-1..-2", "empty", true}, {add, "0.000001", "0.999999", "1", true},
		{add, "1000000000000000", "0..1", "1000000000000000", false}, {add, "1000000000000000", "1", "1000000000000000", false}, {add, "1000000000000000", "0", "1000000000000000", true}, {add, "-1000000000000000", "-0.000001", "-1000000000000000", false}, {add, "-1000000000000000..-999999999999999", "-1..1", "-1000000000000000..-999999999999998", false},
		{add, "1000000000", "0.000001", "1000000000..1000000000.00001", false}, {add, "-1000000000", "-0.000001", "-1000000000.00001..-1000000000", false}, {add, "1000000000000000", "-0.5", "999999999999999..1000000000000000", false}, {add, "-1000000000000000", "0.5", "-1000000000000000..-999999999999999", false}, {add, "99999999999999.9", "0.05", "99999999999999.9..100000000000000", false},
		{sub, "1..2", "1..2", "-1..1", true}, {sub, "1..2", "-0.5..0.5", "0.5..2.5", true}, {sub, "empty", "1", "empty", true}, {sub, "1", "empty", "empty", true}, {sub, "-1000000000000000..0", "0..1", "-1000000000000000..0", false}, {sub, "1000000000000000", "1000000000000000", "0", true}, {sub, "1000000000000000", "-1", "1000000000000000", false}, {sub, "1000000000", "-0.000001", "1000000000..1000000000.00001", false},
		{mul, "-2..3", "-1..4", "-8..12", false}, {mul, "-3..-2", "-5..-4", "8..15", false}, {mul, "-3..-2", "4..5", "-15..-8", false}, {mul, "2..3", "4..5", "8..15", false}, {mul, "-2..3", "-5..-1", "-15..10", false}, {mul, "0", "-5..5", "0", false}, {mul, "0", "0", "0", true}, {mul, "1.5", "2", "3", true}, {mul, "empty", "-5..5", "empty", true}, {mul, "3", "empty", "empty", true},
		{mul, "0.001", "0.0001", "0..0.000001", false}, {mul, "-0.001", "0.0001", "-0.000001..0", false}, {mul, "0.001", "0.001", "0.000001", true}, {mul, "0.000001", "0.000001", "0..0.000001", false}, {mul, "0.000001", "-1000000000000000", "-1000000000", true}, {mul, "1000000000000000", "1000000000000000", "1000000000000000", false}, {mul, "-1000000000000000", "1000000000000000", "-1000000000000000", false},
		{mul, "-1000000000000000..1000000000000000", "-1000000000000000..1000000000000000", "-1000000000000000..1000000000000000", false}, {mul, "100000000", "-100000000..100000000", "-1000000000000000..1000000000000000", false}, {mul, "1000000000.00001", "1.00001", "1000010000.00001..1000010000.00002", false}, {mul, "3.000001", "333333333", "1000000332.33333..1000000332.33334", false},
	} {
		r, all := c.call(of(t, c.a), of(t, c.b))
		if r != of(t, c.want) || all != c.all {
			t.Errorf("%s and %s give %v, %t, not %s, %t", c.a, c.b, r, all, c.want, c.all)
		}
	}
}

// TestSumsFromTheInnerLimits has sums at and next to -10^9 and 10^9: up to there all of them have results.
func TestSumsFromTheInnerLimits(t *testing.T) {
	for _, c := range []struct {
		a, b, want string
		all        bool
	}{
		{"-999999999..999999999", "-1..1", "-1000000000..1000000000", true}, {"-999999999..999999999", "-1..1.00001", "-1000000000..1000000000.00001", false}, {"-999999999..999999999", "-1.00001..1", "-1000000000.00001..1000000000", false}, {"0..1", "1000000000..1000000001", "1000000000..1000000002", false}, {"-2..-1", "-1000000000..-999999999", "-1000000002..-1000000000", false},
		{"0..999999999.999999", "0.000001", "0.000001..1000000000", true}, {"0..999999999.999999", "0.000002", "0.000002..1000000000.00001", false}, {"-999999999.999999..0", "-0.000001", "-1000000000..-0.000001", true}, {"-999999999.999999..0", "-0.000002", "-1000000000.00001..-0.000002", false}, {"-5000000000..-4000000000", "4000000000..5000000000", "-1000000000..1000000000", true},
		{"1000000000", "1000000000", "2000000000", true}, {"1000000000", "0.5..0.6", "1000000000.5..1000000000.6", false}, {"1000000000000000", "-1000000000000000", "0", true}, {"1000000000..1000000001", "0", "1000000000..1000000001", false}, {"1000000000", "0", "1000000000", true},
	} {
		a, b := of(t, c.a), of(t, c.b)
		minus := api.Range{Low: api.Dec{N: -b.High.N, Scale: b.High.Scale}, High: api.Dec{N: -b.Low.N, Scale: b.Low.Scale}}
		for _, sum := range []struct {
			call func(a, b api.Range) (api.Range, bool)
			a, b api.Range
		}{{interval.Add, a, b}, {interval.Add, b, a}, {interval.Sub, a, minus}} {
			if r, all := sum.call(sum.a, sum.b); r != of(t, c.want) || all != c.all {
				t.Errorf("the sum of %s and %s is %v, %t, not %s, %t", c.a, c.b, r, all, c.want, c.all)
			}
		}
	}
}

func TestArithmeticOfSmallRanges(t *testing.T) {
	l := smallRanges()
	for _, o := range operations() {
		for _, a := range l {
			for _, b := range l {
				o.check(t, a, b)
			}
		}
	}
}

func TestArithmeticOfSamples(t *testing.T) {
	for i, o := range operations() {
		s := &samples{state: uint64(10 + i)}
		all := 0
		const tries = 20000
		for range tries {
			if o.check(t, s.numbers(), s.numbers()) {
				all++
			}
		}
		if all < tries/10 || all > tries*9/10 {
			t.Errorf("%s: all results fit for %d of %d pairs", o.name, all, tries)
		}
	}
}

// TestSumsNextToLimits has pairs of decimals whose sum or difference is next to a number from which on decimals have a place less, and ranges between them.
func TestSumsNextToLimits(t *testing.T) {
	s := &samples{state: 20}
	for range 6000 {
		a := s.right()
		limit := quotient(tenTo(9+s.below(7)), 0)
		if s.below(2) == 0 {
			limit.Neg(limit)
		}
		limit.Add(limit, quotient(s.below(5)-2, s.below(7)))
		b, ok := fit(limit.Sub(limit, toBig(a)))
		if !ok {
			continue
		}
		single, other := api.Range{Low: a, High: a}, api.Range{Low: b, High: b}
		minus := api.Dec{N: -b.N, Scale: b.Scale}
		operations()[0].check(t, single, other)
		operations()[1].check(t, single, api.Range{Low: minus, High: minus})
		for _, o := range operations() {
			o.check(t, single, api.Range{Low: b})
			o.check(t, api.Range{High: a}, other)
			o.check(t, single, api.Range{Low: minus, High: s.right()})
		}
	}
}

// TestProductsNextToLimits has pairs of decimals whose product is next to a power of 10, with more places than fit.
func TestProductsNextToLimits(t *testing.T) {
	s := &samples{state: 21}
	for range 6000 {
		a := api.Dec{N: 1 + s.units(), Scale: s.below(7)}
		if !isRight(a) {
			continue
		}
		limit := quotient(1, 0).SetInt(power(s.below(17)))
		b, ok := fit(nearestBelow(limit.Quo(limit, toBig(a))))
		if !ok {
			continue
		}
		for by := -1; by <= 1; by++ {
			c := api.Dec{N: b.N + by, Scale: b.Scale}
			minus := api.Dec{N: -c.N, Scale: c.Scale}
			operations()[2].check(t, api.Range{Low: a, High: a}, api.Range{Low: c, High: c})
			operations()[2].check(t, api.Range{Low: a, High: a}, api.Range{Low: minus, High: minus})
			operations()[2].check(t, api.Range{Low: minus, High: c}, api.Range{Low: a, High: s.right()})
		}
	}
}

// TestSingleRanges has ranges of one decimal: the bool is that of the decimals, and the range is one decimal as well, if it is true.
func TestSingleRanges(t *testing.T) {
	s := &samples{state: 22}
	for _, o := range operations() {
		fitting := 0
		const tries = 5000
		for range tries {
			a, b := s.bound(), s.bound()
			exact, fits := fit(o.exact(new(big.Rat), toBig(a), toBig(b)))
			r, all := o.call(api.Range{Low: a, High: a}, api.Range{Low: b, High: b})
			if all != fits || fits && r != (api.Range{Low: exact, High: exact}) {
				t.Fatalf("%s of %v and %v = %v, %t", o.name, a, b, r, all)
			}
			if fits {
				fitting++
			}
		}
		if fitting < tries/10 || fitting > tries*9/10 {
			t.Errorf("%s: %d of %d results fit", o.name, fitting, tries)
		}
	}
}

// TestBoundsAreNearest has results next to which no other decimal is nearer to the exact number.
func TestBoundsAreNearest(t *testing.T) {
	s := &samples{state: 23}
	for _, o := range operations() {
		inexact := 0
		for range 6000 {
			a, b := s.right(), s.right()
			exact := o.exact(new(big.Rat), toBig(a), toBig(b))
			r, _ := o.call(api.Range{Low: a, High: a}, api.Range{Low: b, High: b})
			if allowed := endsOf(allNumbers()); !allowed.contain(exact) {
				continue
			}
			if e := endsOf(r); !e.contain(exact) {
				t.Fatalf("%s of %v and %v = %v", o.name, a, b, r)
			}
			for scale := range 7 {
				above := new(big.Rat).Add(toBig(r.Low), quotient(1, scale))
				below := new(big.Rat).Sub(toBig(r.High), quotient(1, scale))
				if _, fits := fit(above); fits && above.Cmp(exact) <= 0 {
					t.Fatalf("%s of %v and %v = %v, but %s is nearer", o.name, a, b, r, above)
				}
				if _, fits := fit(below); fits && below.Cmp(exact) >= 0 {
					t.Fatalf("%s of %v and %v = %v, but %s is nearer", o.name, a, b, r, below)
				}
			}
			if r.Low != r.High {
				inexact++
			}
		}
		if inexact < 500 {
			t.Errorf("%s: %d results do not fit", o.name, inexact)
		}
	}
}

func TestArithmeticOfWrongBounds(t *testing.T) {
	wrong := wrongDecimals()
	one, minus := api.Dec{N: 1}, api.Dec{N: -1}
	for i, a := range wrong {
		b := wrong[len(wrong)-1-i]
		for _, o := range operations() {
			for _, r := range []api.Range{{Low: a, High: a}, {Low: a, High: one}, {Low: minus, High: a}, {Low: a, High: minus}, {Low: a, High: b}} {
				o.check(t, r, api.Range{Low: one, High: one})
				o.check(t, api.Range{Low: minus, High: one}, r)
				o.check(t, r, api.Range{Low: b, High: a})
			}
		}
	}
}
