package nat_test

import (
	"math/big"
	"testing"

	"concord/api"
	"concord/nat"
)

// P1.3: Quo.

// checkQuo compares a quotient and its rest with those of math/big; b is not 0.
func checkQuo(t *testing.T, a, b api.Nat) {
	t.Helper()
	wantQ, wantR := new(big.Int).QuoRem(toBig(a), toBig(b), new(big.Int))
	q, r := quo(t, a, b)
	check(t, "the quotient", q, wantQ, a, b)
	check(t, "the rest", r, wantR, a, b)
}

func TestExamplesOfQuo(t *testing.T) {
	if q, r := quo(t, nat.Of(1000), nat.Of(7)); q != "\x8e" || r != "\x06" {
		t.Errorf("Quo(1000, 7) = %x, %x", string(q), string(r))
	}
	for a := range int64(60) {
		for b := range int64(20) {
			if b > 0 {
				checkQuo(t, small(a), small(b))
			}
		}
	}
}

func TestQuoByZeroIsFalse(t *testing.T) {
	for _, a := range []api.Nat{"", "\x00", "\x01", "\x00\x05", power2(64, 0), power2(200, 3)} {
		for _, b := range []api.Nat{"", "\x00", zeros(8), zeros(9), zeros(50)} {
			if q, r, ok := nat.Quo(a, b); ok || q != "" || r != "" {
				t.Errorf("Quo(%x, %x) = %x, %x, %t", string(a), string(b), string(q), string(r), ok)
			}
		}
	}
}

func TestQuoOfSamples(t *testing.T) {
	s := &samples{state: 6}
	for range 10000 {
		a, b := s.any(), s.right()
		checkQuo(t, a, b)
		checkQuo(t, a, a+"\x01")
		checkQuo(t, zeros(s.below(10))+a, zeros(s.below(10))+b)
	}
}

// TestQuoWithWrongEstimates divides numbers whose words are near the ends and the middle of their range, for words of 1, 2, 4 and 8 bytes.
func TestQuoWithWrongEstimates(t *testing.T) {
	s := &samples{state: 7}
	for _, bytes := range []int{1, 2, 4, 8} {
		for range 20000 {
			b := s.words(1+s.below(5), bytes)
			if toBig(b).Sign() > 0 {
				checkQuo(t, s.words(s.below(10), bytes), b)
			}
		}
	}
}

// TestQuoOfProducts divides numbers just below, at, and just above a multiple of the divisor.
func TestQuoOfProducts(t *testing.T) {
	s := &samples{state: 8}
	one := big.NewInt(1)
	for range 4000 {
		b, q := s.right(), s.right()
		multiple := new(big.Int).Mul(toBig(b), toBig(q))
		checkQuo(t, toNat(multiple), b)
		checkQuo(t, toNat(new(big.Int).Sub(multiple, one)), b)
		checkQuo(t, toNat(new(big.Int).Add(multiple, one)), b)
		checkQuo(t, toNat(multiple.Add(multiple, toBig(b)).Sub(multiple, one)), b)
	}
}

func TestQuoByItselfAndByOne(t *testing.T) {
	s := &samples{state: 9}
	for range 500 {
		a := s.right()
		if q, r := quo(t, a, "\x00"+a); q != "\x01" || r != "" {
			t.Fatalf("Quo of %x by itself = %x, %x", string(a), string(q), string(r))
		}
		if q, r := quo(t, a, "\x01"); q != a || r != "" {
			t.Fatalf("Quo of %x by 1 = %x, %x", string(a), string(q), string(r))
		}
		if q, r := quo(t, a, a+"\x00"); q != "" || r != a {
			t.Fatalf("Quo of %x by more = %x, %x", string(a), string(q), string(r))
		}
	}
}

func TestQuoOfLargeNumbers(t *testing.T) {
	s := &samples{state: 10}
	a := s.bytes(20000)
	for _, size := range []int{1, 8, 9, 1000, 10000, 19999, 20000} {
		checkQuo(t, a, "\x03"+s.bytes(size))
	}
}

// P1.3: Gcd.

// checkGcd compares a greatest common divisor with that of math/big.
func checkGcd(t *testing.T, a, b api.Nat) {
	t.Helper()
	want := new(big.Int).GCD(nil, nil, toBig(a), toBig(b))
	check(t, "Gcd", nat.Gcd(a, b), want, a, b)
	check(t, "Gcd", nat.Gcd(b, a), want, b, a)
}

func TestExamplesOfGcd(t *testing.T) {
	if nat.Gcd("\x0c", "\x12") != "\x06" || nat.Gcd("", "\x05") != "\x05" || nat.Gcd("\x05", "") != "\x05" {
		t.Error("Gcd of an example")
	}
	for a := range int64(40) {
		for b := range int64(40) {
			checkGcd(t, small(a), small(b))
		}
	}
}

func TestGcdWithZero(t *testing.T) {
	s := &samples{state: 11}
	for _, zero := range []api.Nat{"", "\x00", zeros(8), zeros(20)} {
		if g := nat.Gcd(zero, ""); g != "" {
			t.Errorf("Gcd(%x, 0) = %x", string(zero), string(g))
		}
		for range 200 {
			a := s.any()
			checkGcd(t, a, zero)
			checkGcd(t, zeros(9)+a, zero)
		}
	}
}

func TestGcdOfSamples(t *testing.T) {
	s := &samples{state: 12}
	for range 3000 {
		a, b, common := s.any(), s.any(), s.right()
		checkGcd(t, a, b)
		checkGcd(t, zeros(3)+a, b)
		checkGcd(t, toNat(new(big.Int).Mul(toBig(a), toBig(common))), toNat(new(big.Int).Mul(toBig(b), toBig(common))))
	}
}

// TestGcdOfFibonacciNumbers takes as many steps as there can be.
func TestGcdOfFibonacciNumbers(t *testing.T) {
	a, b := big.NewInt(0), big.NewInt(1)
	for range 1500 {
		a, b = b, new(big.Int).Add(a, b)
	}
	checkGcd(t, toNat(a), toNat(b))
	seven := big.NewInt(7)
	checkGcd(t, toNat(a.Mul(a, seven)), toNat(b.Mul(b, seven)))
}

func TestGcdOfLargeNumbers(t *testing.T) {
	s := &samples{state: 13}
	common := s.bytes(500)
	x, y := new(big.Int).Mul(toBig(s.bytes(1000)), toBig(common)), new(big.Int).Mul(toBig(s.bytes(900)), toBig(common))
	checkGcd(t, toNat(x), toNat(y))
	checkGcd(t, power2(20000, 0), power2(15000, 0))
	checkGcd(t, s.bytes(5000), "\x06")
}
