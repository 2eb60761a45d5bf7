package nat

import (
	"cmp"
	"math/bits"

	"concord/api"
)

// The functions of this package compute with slices of words, the least significant word first, so that carries move on as the index does. Such a slice is trimmed, if its last word is not 0; wherever nothing else is said, arguments and results are trimmed.

const (
	wordBits  = 64
	wordBytes = wordBits / 8
)

// withoutZeros returns the right number with the value of a.
func withoutZeros(a api.Nat) api.Nat {
	for len(a) > 0 && a[0] == 0 {
		a = a[1:]
	}
	return a
}

// wordsOf returns the words of a, which need not be right, in new memory.
func wordsOf(a api.Nat) []uint64 {
	a = withoutZeros(a)
	words := make([]uint64, (len(a)+wordBytes-1)/wordBytes)
	for i := range len(a) {
		place := len(a) - 1 - i
		words[place/wordBytes] |= uint64(a[i]) << (8 * (place % wordBytes))
	}
	return words
}

// natOf returns the number with these words, which need not be trimmed.
func natOf(words []uint64) api.Nat {
	words = trimmed(words)
	if len(words) == 0 {
		return ""
	}
	top := bits.Len64(words[len(words)-1])
	digits := make([]byte, wordBytes*(len(words)-1)+(top+7)/8)
	for i := range digits {
		place := len(digits) - 1 - i
		digits[i] = byte(words[place/wordBytes] >> (8 * (place % wordBytes)))
	}
	return api.Nat(digits)
}

// trimmed returns words without the words 0 at its end.
func trimmed(words []uint64) []uint64 {
	for len(words) > 0 && words[len(words)-1] == 0 {
		words = words[:len(words)-1]
	}
	return words
}

// compare returns -1, 0 or 1, if a is less than, equal to, or greater than b.
func compare(a, b []uint64) int {
	if len(a) != len(b) {
		return cmp.Compare(len(a), len(b))
	}
	for i := len(a) - 1; i >= 0; i-- {
		if a[i] != b[i] {
			return cmp.Compare(a[i], b[i])
		}
	}
	return 0
}

// sum returns a + b, not trimmed.
func sum(a, b []uint64) []uint64 {
	total := make([]uint64, max(len(a), len(b))+1)
	copy(total, a)
	addTo(total, b)
	return total
}

// product returns a times b, not trimmed.
func product(a, b []uint64) []uint64 {
	total := make([]uint64, len(a)+len(b))
	for i, word := range b {
		total[i+len(a)] = addMultiple(total[i:], a, word)
	}
	return total
}

// addTo adds b to total, which has at least as many words, and drops the carry out of its last word.
func addTo(total, b []uint64) {
	carry := uint64(0)
	for i, word := range b {
		total[i], carry = bits.Add64(total[i], word, carry)
	}
	addWordTo(total[len(b):], carry)
}

// addWordTo adds a word to total, and drops the carry out of its last word.
func addWordTo(total []uint64, word uint64) {
	for i := 0; i < len(total) && word > 0; i++ {
		total[i], word = bits.Add64(total[i], word, 0)
	}
}

// subtractFrom subtracts b from rest, which has at least as many words, and is not less than b.
func subtractFrom(rest, b []uint64) {
	borrow := uint64(0)
	for i, word := range b {
		rest[i], borrow = bits.Sub64(rest[i], word, borrow)
	}
	for i := len(b); i < len(rest) && borrow > 0; i++ {
		rest[i], borrow = bits.Sub64(rest[i], 0, borrow)
	}
}

// addMultiple adds b times factor to the first words of total, as many as b has, and returns the carry.
func addMultiple(total, b []uint64, factor uint64) uint64 {
	carry := uint64(0)
	for i, word := range b {
		high, low := bits.Mul64(word, factor)
		low, over := bits.Add64(low, total[i], 0)
		high += over
		total[i], over = bits.Add64(low, carry, 0)
		carry = high + over
	}
	return carry
}

// subtractMultiple subtracts b times factor from the first words of rest, as many as b has, and returns the borrow.
func subtractMultiple(rest, b []uint64, factor uint64) uint64 {
	borrow := uint64(0)
	for i, word := range b {
		high, low := bits.Mul64(word, factor)
		low, over := bits.Add64(low, borrow, 0)
		high += over
		rest[i], over = bits.Sub64(rest[i], low, 0)
		borrow = high + over
	}
	return borrow
}

// shiftedLeft returns words times 2^shift, with one word more, not trimmed; shift is less than 64.
func shiftedLeft(words []uint64, shift int) []uint64 {
	shifted := make([]uint64, len(words)+1)
	for i, word := range words {
		shifted[i] |= word << shift
		shifted[i+1] = word >> (wordBits - shift)
	}
	return shifted
}

// shiftRight divides words by 2^shift in place; shift is less than 64. It leaves the words not trimmed.
func shiftRight(words []uint64, shift int) {
	for i := range words {
		words[i] >>= shift
		if i+1 < len(words) {
			words[i] |= words[i+1] << (wordBits - shift)
		}
	}
}
