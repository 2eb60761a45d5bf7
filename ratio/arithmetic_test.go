package ratio_test

import (
	"math/big"
	"testing"

	"concord/api"
	"concord/ratio"
)

// P2.4: Add, Sub, Mul, Quo, Sum.

// checkArithmetic compares the results for two numbers with those of math/big.
func checkArithmetic(t *testing.T, a, b api.Rat) {
	t.Helper()
	x, y := toBig(a), toBig(b)
	check(t, "Add", ratio.Add(a, b), new(big.Rat).Add(x, y), a, b)
	check(t, "Sub", ratio.Sub(a, b), new(big.Rat).Sub(x, y), a, b)
	check(t, "Mul", ratio.Mul(a, b), new(big.Rat).Mul(x, y), a, b)
	quotient, ok := ratio.Quo(a, b)
	if y.Sign() == 0 {
		checkNone(t, "Quo by 0", quotient, ok)
		return
	}
	if !ok {
		t.Fatalf("Quo(%#v, %#v) is false", a, b)
	}
	check(t, "Quo", quotient, new(big.Rat).Quo(x, y), a, b)
}

func TestExamplesOfArithmetic(t *testing.T) {
	if got := ratio.Add(of(1, 2), of(-1, 3)); got != (api.Rat{Num: "\x01", Den: "\x06"}) {
		t.Errorf("1/2 + -1/3 = %#v", got)
	}
	if got, ok := ratio.Quo(of(1, 2), of(-1, 4)); !ok || got != (api.Rat{Neg: true, Num: "\x02", Den: "\x01"}) {
		t.Errorf("1/2 / -1/4 = %#v, %t", got, ok)
	}
}

func TestArithmeticOfSmallNumbers(t *testing.T) {
	for n := int64(-7); n <= 7; n++ {
		for d := int64(1); d < 9; d++ {
			for m := int64(-7); m <= 7; m++ {
				for e := int64(1); e < 9; e++ {
					checkArithmetic(t, of(n, d), of(m, e))
				}
			}
		}
	}
}

func TestArithmeticOfSamples(t *testing.T) {
	s := &samples{state: 6}
	for range 6000 {
		checkArithmetic(t, s.any(), s.any())
	}
}

// TestArithmeticThatCancels has results with a smaller denominator than that of both numbers, or than their product.
func TestArithmeticThatCancels(t *testing.T) {
	s := &samples{state: 7}
	for range 1500 {
		a, b := toBig(s.right()), toBig(s.right())
		for _, c := range []*big.Rat{a, new(big.Rat).Neg(a), new(big.Rat).Sub(b, a), new(big.Rat).Mul(a, b), new(big.Rat).Add(a, big.NewRat(1, 6))} {
			checkArithmetic(t, toRat(a), toRat(c))
			checkArithmetic(t, toRat(c), toRat(a))
		}
		if a.Sign() != 0 {
			checkArithmetic(t, toRat(a), toRat(new(big.Rat).Inv(a)))
		}
	}
}

func TestArithmeticOfSmoothDenominators(t *testing.T) {
	s := &samples{state: 8}
	smooth := func() api.Rat {
		a := new(big.Rat).SetFrac(s.smooth(), s.smooth())
		if s.below(2) == 0 {
			a.Neg(a)
		}
		return toRat(a)
	}
	for range 3000 {
		checkArithmetic(t, smooth(), smooth())
	}
}

func TestArithmeticOfNumbersThatAreNotRight(t *testing.T) {
	s := &samples{state: 9}
	for _, wrong := range wrongNumbers() {
		for _, a := range append([]api.Rat{of(0, 1), of(1, 1), of(-3, 2)}, s.right(), s.any()) {
			checkArithmetic(t, a, wrong)
			checkArithmetic(t, wrong, a)
		}
		for _, other := range wrongNumbers() {
			checkArithmetic(t, wrong, other)
		}
	}
	for range 300 {
		a, b := s.right(), s.right()
		for _, wrong := range spoiled(a) {
			checkArithmetic(t, wrong, b)
			checkArithmetic(t, b, wrong)
		}
	}
}

func TestQuoByZero(t *testing.T) {
	for _, a := range append(wrongNumbers(), of(0, 1), of(1, 1), of(-3, 2)) {
		for _, b := range append(wrongNumbers(), of(0, 1)) {
			got, ok := ratio.Quo(a, b)
			checkNone(t, "Quo by 0", got, ok)
		}
	}
}

func TestArithmeticOfLargeNumbers(t *testing.T) {
	power := func(base int64, exponent int64) *big.Int {
		return new(big.Int).Exp(big.NewInt(base), big.NewInt(exponent), nil)
	}
	a := toRat(new(big.Rat).SetFrac(power(3, 4000), power(2, 5000)))
	b := toRat(new(big.Rat).SetFrac(new(big.Int).Neg(power(2, 6000)), power(3, 3000)))
	for _, c := range []api.Rat{a, b, of(1, 6), of(-7, 1), ratio.Neg(a)} {
		checkArithmetic(t, a, c)
		checkArithmetic(t, b, c)
	}
}

// sumOf returns what the numbers of a list count as, added.
func sumOf(l []api.Rat) *big.Rat {
	total := new(big.Rat)
	for _, a := range l {
		total.Add(total, toBig(a))
	}
	return total
}

func TestSumOfNothing(t *testing.T) {
	check(t, "Sum", ratio.Sum(nil), new(big.Rat))
	check(t, "Sum", ratio.Sum([]api.Rat{}), new(big.Rat))
}

func TestSumOfOne(t *testing.T) {
	s := &samples{state: 10}
	for range 300 {
		a := s.any()
		check(t, "Sum", ratio.Sum([]api.Rat{a}), toBig(a), a)
	}
	for _, a := range wrongNumbers() {
		check(t, "Sum", ratio.Sum([]api.Rat{a}), new(big.Rat), a)
	}
}

func TestSumOfSamples(t *testing.T) {
	s := &samples{state: 11}
	for range 1000 {
		l := s.list(s.below(9), s.any)
		check(t, "Sum", ratio.Sum(l), sumOf(l), l...)
	}
}

// TestSumOfWrongElements puts a number that is not right at each place of a list.
func TestSumOfWrongElements(t *testing.T) {
	s := &samples{state: 12}
	for _, wrong := range wrongNumbers() {
		l := s.list(4, s.right)
		for place := range l {
			with := append([]api.Rat{}, l...)
			with[place] = wrong
			check(t, "Sum", ratio.Sum(with), sumOf(with), with...)
		}
	}
	check(t, "Sum", ratio.Sum(wrongNumbers()), new(big.Rat))
}

func TestSumThatCancels(t *testing.T) {
	s := &samples{state: 13}
	for range 200 {
		l := s.list(6, s.right)
		for _, a := range l[:6] {
			l = append(l, ratio.Neg(a))
		}
		check(t, "Sum", ratio.Sum(l), new(big.Rat), l...)
	}
}

func TestSumOfManyElements(t *testing.T) {
	var harmonic []api.Rat
	for n := int64(1); n <= 700; n++ {
		harmonic = append(harmonic, of(1, n))
	}
	check(t, "Sum", ratio.Sum(harmonic), sumOf(harmonic))
}
