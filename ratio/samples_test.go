package ratio_test

import (
	"math/big"
	"testing"

	"concord/api"
	"concord/ratio"
)

// The tests of this package call exported functions only, and compare their results with those of math/big. Samples come from a generator with a fixed start, so that each run tests the same numbers.

// samples generates numbers.
type samples struct{ state uint64 }

// below returns a number from 0 to n - 1 (splitmix64).
func (s *samples) below(n int) int {
	s.state += 0x9e3779b97f4a7c15
	z := s.state
	z = (z ^ z>>30) * 0xbf58476d1ce4e5b9
	z = (z ^ z>>27) * 0x94d049bb133111eb
	return int((z ^ z>>31) % uint64(n))
}

// natural returns a number greater than 0 of one of several forms: small, smooth, next to a power of two, or with some hundred bits.
func (s *samples) natural() *big.Int {
	switch s.below(5) {
	case 0:
		return big.NewInt(int64(1 + s.below(12)))
	case 1:
		return big.NewInt(int64(1 + s.below(1<<20)))
	case 2:
		return s.smooth()
	case 3:
		power := new(big.Int).Lsh(big.NewInt(1), uint(2+s.below(200)))
		return power.Add(power, big.NewInt(int64(s.below(3)-1)))
	}
	digits := make([]byte, 1+s.below(50))
	for i := range digits {
		digits[i] = byte(s.below(256))
	}
	digits[0] |= 1
	return new(big.Int).SetBytes(digits)
}

// smooth returns a product of small primes; two such numbers have often a common divisor.
func (s *samples) smooth() *big.Int {
	product := big.NewInt(1)
	for range s.below(30) {
		product.Mul(product, big.NewInt([]int64{2, 3, 5, 7, 4294967291}[s.below(5)]))
	}
	return product
}

// right returns a right number.
func (s *samples) right() api.Rat {
	num := s.natural()
	if s.below(10) == 0 {
		num.SetInt64(0)
	}
	if s.below(2) == 0 {
		num.Neg(num)
	}
	den := big.NewInt(1)
	if s.below(4) > 0 {
		den = s.natural()
	}
	return toRat(new(big.Rat).SetFrac(num, den))
}

// any returns a number that is right more often than not.
func (s *samples) any() api.Rat {
	switch s.below(12) {
	case 0:
		return wrongNumbers()[s.below(len(wrongNumbers()))]
	case 1:
		return spoiled(s.right())[s.below(len(spoiled(ratio.Of(1))))]
	}
	return s.right()
}

// list returns this many numbers.
func (s *samples) list(size int, each func() api.Rat) []api.Rat {
	var l []api.Rat
	for range size {
		l = append(l, each())
	}
	return l
}

// wrongNumbers returns numbers that are not right, each for another reason.
func wrongNumbers() []api.Rat {
	return []api.Rat{
		{}, {Neg: true}, {Num: "\x01"}, {Neg: true, Num: "\x05"}, // the denominator is 0
		{Num: "\x01", Den: "\x00"}, {Num: "\x01", Den: "\x00\x00"}, {Den: "\x00"},
		{Num: "\x00", Den: "\x01"}, {Num: "\x00\x03", Den: "\x02"}, {Num: "\x00\x00\x01", Den: "\x01"}, {Neg: true, Num: "\x00", Den: "\x01"}, // zeros in front of the numerator
		{Num: "\x03", Den: "\x00\x02"}, {Num: "\x03", Den: "\x00\x01"}, {Den: "\x00\x01"}, {Num: "\x00\x03", Den: "\x00\x02"}, // zeros in front of the denominator
		{Num: "\x02", Den: "\x04"}, {Neg: true, Num: "\x02", Den: "\x04"}, {Num: "\x06", Den: "\x03"}, {Num: "\x07", Den: "\x07"}, {Num: "\x01\x00", Den: "\x02"}, // a common divisor
		{Den: "\x02"}, {Neg: true, Den: "\x05"}, {Den: "\x01\x00"}, // 0 with another denominator
		{Neg: true, Den: "\x01"}, // -0
	}
}

// spoiled returns numbers made of a right number, that are not right.
func spoiled(a api.Rat) []api.Rat {
	three := func(n api.Nat) api.Nat { return toNat(new(big.Int).Mul(toInt(n), big.NewInt(3))) }
	return []api.Rat{
		{Neg: a.Neg, Num: "\x00" + a.Num, Den: a.Den},
		{Neg: a.Neg, Num: a.Num, Den: "\x00" + a.Den},
		{Neg: a.Neg, Num: a.Num},
		{Neg: a.Neg, Num: three(a.Num), Den: three(a.Den)},
	}
}

// toInt returns the value of a natural number.
func toInt(a api.Nat) *big.Int { return new(big.Int).SetBytes([]byte(a)) }

// toNat returns the right natural number with the value a.
func toNat(a *big.Int) api.Nat { return api.Nat(a.Bytes()) }

// toRat returns the right number with the value a.
func toRat(a *big.Rat) api.Rat {
	return api.Rat{Neg: a.Sign() < 0, Num: toNat(a.Num()), Den: toNat(a.Denom())}
}

// toBig returns what a counts as: 0, if it is not right.
func toBig(a api.Rat) *big.Rat {
	if !isRight(a) {
		return new(big.Rat)
	}
	value := new(big.Rat).SetFrac(toInt(a.Num), toInt(a.Den))
	if a.Neg {
		value.Neg(value)
	}
	return value
}

// isRight reports whether a is right, without the help of the package.
func isRight(a api.Rat) bool {
	if len(a.Num) > 0 && a.Num[0] == 0 || len(a.Den) == 0 || a.Den[0] == 0 {
		return false
	}
	if a.Num == "" {
		return !a.Neg && a.Den == "\x01"
	}
	return new(big.Int).GCD(nil, nil, toInt(a.Num), toInt(a.Den)).Cmp(big.NewInt(1)) == 0
}

// of returns the right number num / den, without the help of the package.
func of(num, den int64) api.Rat { return toRat(big.NewRat(num, den)) }

// number returns the right number with this text, without the help of the package.
func number(t *testing.T, text string) api.Rat {
	t.Helper()
	a, ok := new(big.Rat).SetString(text)
	if !ok {
		t.Fatalf("%#v is no number", text)
	}
	return toRat(a)
}

// check reports a result that is not the right number with the value want.
func check(t *testing.T, call string, got api.Rat, want *big.Rat, args ...api.Rat) {
	t.Helper()
	if got != toRat(want) {
		t.Fatalf("%s of %#v = %#v, not %s", call, args, got, want)
	}
}

// checkNone reports a result together with false that is not the zero value, or with true.
func checkNone(t *testing.T, call string, got api.Rat, ok bool) {
	t.Helper()
	if ok || got != (api.Rat{}) {
		t.Errorf("%s = %#v, %t", call, got, ok)
	}
}
