// Package nat is layer 1: natural numbers of any size, as strings of bytes (see shared/doc/01-nat.md).
package nat

import (
	"cmp"
	"math"
	"math/bits"

	"concord/api"
)

// Of returns the number n, and 0 for a negative n.
func Of(n int) api.Nat {
	if n < 0 {
		return ""
	}
	return natOf([]uint64{uint64(n)})
}

// Int returns the value of a and true, if it is at most 2^63 - 1; otherwise 0 and false.
func Int(a api.Nat) (int, bool) {
	words := wordsOf(a)
	switch {
	case len(words) == 0:
		return 0, true
	case len(words) > 1 || words[0] > math.MaxInt64:
		return 0, false
	}
	return int(words[0]), true
}

// Right reports whether a does not begin with a byte 0.
func Right(a api.Nat) bool {
	return len(a) == 0 || a[0] != 0
}

// Cmp returns -1, 0 or 1, if a is less than, equal to, or greater than b.
func Cmp(a, b api.Nat) int {
	a, b = withoutZeros(a), withoutZeros(b)
	if len(a) != len(b) {
		return cmp.Compare(len(a), len(b))
	}
	return cmp.Compare(a, b)
}

// Add returns the sum of a and b.
func Add(a, b api.Nat) api.Nat {
	return natOf(sum(wordsOf(a), wordsOf(b)))
}

// Sub returns a - b and true, if b is not greater than a; otherwise 0 and false.
func Sub(a, b api.Nat) (api.Nat, bool) {
	if Cmp(a, b) < 0 {
		return "", false
	}
	rest := wordsOf(a)
	subtractFrom(rest, wordsOf(b))
	return natOf(rest), true
}

// Mul returns the product of a and b.
func Mul(a, b api.Nat) api.Nat {
	return natOf(product(wordsOf(a), wordsOf(b)))
}

// Quo returns the quotient of a and b, rounded down, the rest, and true, if b is not 0; otherwise 0, 0 and false.
func Quo(a, b api.Nat) (q, r api.Nat, ok bool) {
	divisor := wordsOf(b)
	if len(divisor) == 0 {
		return "", "", false
	}
	quotient, rest := divide(wordsOf(a), divisor)
	return natOf(quotient), natOf(rest), true
}

// Gcd returns the greatest common divisor of a and b; if one of them is 0, the other one.
func Gcd(a, b api.Nat) api.Nat {
	x, y := wordsOf(a), wordsOf(b)
	for len(y) > 1 {
		_, rest := divide(x, y)
		x, y = y, rest
	}
	if len(y) == 0 {
		return natOf(x)
	}
	// Numbers of one word are common, and need no new memory at each step.
	return natOf([]uint64{gcdOfWords(y[0], divideInPlace(x, y[0]))})
}

// Bits returns the number of digits of a to the base 2; 0 for 0.
func Bits(a api.Nat) int {
	a = withoutZeros(a)
	if len(a) == 0 {
		return 0
	}
	return 8*(len(a)-1) + bits.Len8(a[0])
}
