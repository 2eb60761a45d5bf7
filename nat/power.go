package nat

import (
	"iter"

	"concord/api"
)

// Pow returns the rest of a to the power of e by m, and true, if m is not 0; otherwise 0 and false.
func Pow(a, e, m api.Nat) (api.Nat, bool) {
	modulus := wordsOf(m)
	if len(modulus) == 0 {
		return "", false
	}
	_, base := divide(wordsOf(a), modulus)
	if modulus[0]%2 == 1 {
		return natOf(powerByOdd(base, e, modulus)), true
	}
	return natOf(powerByEven(base, e, modulus)), true
}

// powerByOdd returns the rest, not trimmed, of base to the power of e by an odd modulus.
func powerByOdd(base []uint64, e api.Nat, modulus []uint64) []uint64 {
	m := montgomeryBy(modulus)
	return m.number(power(m.image(base), m.image([]uint64{1}), e, m.product))
}

// powerByEven returns the rest of base to the power of e by an even modulus.
func powerByEven(base []uint64, e api.Nat, modulus []uint64) []uint64 {
	return power(base, []uint64{1}, e, func(a, b []uint64) []uint64 {
		_, rest := divide(trimmed(product(a, b)), modulus)
		return rest
	})
}

// power returns base to the power of e, with these products, whose neutral element is one.
func power(base, one []uint64, e api.Nat, times func(a, b []uint64) []uint64) []uint64 {
	raised := one
	for bit := range bitsFromTop(e) {
		raised = times(raised, raised)
		if bit {
			raised = times(raised, base)
		}
	}
	return raised
}

// bitsFromTop yields the digits of e to the base 2, the most significant one first; none for 0.
func bitsFromTop(e api.Nat) iter.Seq[bool] {
	return func(yield func(bool) bool) {
		for place := Bits(e) - 1; place >= 0; place-- {
			digit := e[len(e)-1-place/8]
			if !yield(digit>>(place%8)&1 == 1) {
				return
			}
		}
	}
}
