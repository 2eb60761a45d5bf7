package nat

import (
	"math"
	"math/bits"
	"slices"
)

// divide returns the quotient of a and b, and the rest, which may be a itself; b is not 0.
func divide(a, b []uint64) (quotient, rest []uint64) {
	if compare(a, b) < 0 {
		return nil, a
	}
	if len(b) == 1 {
		quotient = slices.Clone(a)
		rest = []uint64{divideInPlace(quotient, b[0])}
		return trimmed(quotient), trimmed(rest)
	}
	// Estimated digits are nearly right only if the divisor's highest bit is set.
	shift := bits.LeadingZeros64(b[len(b)-1])
	divisor := shiftedLeft(b, shift)[:len(b)]
	rest = shiftedLeft(a, shift)
	quotient = divideLong(rest, divisor)
	shiftRight(rest, shift)
	return trimmed(quotient), trimmed(rest)
}

// divideInPlace replaces words by its quotient by divisor, not trimmed, and returns the rest; divisor is not 0.
func divideInPlace(words []uint64, divisor uint64) uint64 {
	rest := uint64(0)
	for i := len(words) - 1; i >= 0; i-- {
		words[i], rest = bits.Div64(rest, words[i], divisor)
	}
	return rest
}

// divideLong replaces rest by its rest by divisor, and returns the quotient, both not trimmed. The divisor has at least two words, its highest bit is set, and it is greater than as many of the last words of rest.
func divideLong(rest, divisor []uint64) []uint64 {
	size := len(divisor)
	quotient := make([]uint64, len(rest)-size)
	for i := len(quotient) - 1; i >= 0; i-- {
		part := rest[i : i+size+1]
		digit := estimateDigit(part, divisor)
		borrow := subtractMultiple(part, divisor, digit)
		part[size], borrow = bits.Sub64(part[size], borrow, 0)
		if borrow > 0 {
			digit--
			addTo(part, divisor)
		}
		quotient[i] = digit
	}
	return quotient
}

// estimateDigit returns the quotient of part and divisor, which fits into a word, or one more. The divisor has at least two words, and its highest bit is set; part has one word more than it.
func estimateDigit(part, divisor []uint64) uint64 {
	size := len(divisor)
	first, second := divisor[size-1], divisor[size-2]
	digit, rest, carry := uint64(math.MaxUint64), uint64(0), uint64(0)
	if part[size] < first {
		digit, rest = bits.Div64(part[size], part[size-1], first)
	} else {
		// Both begin with the same word; so this is what the greatest digit leaves of the first two words of part.
		rest, carry = bits.Add64(part[size-1], first, 0)
	}
	// The digit is too great, as long as second, times it, is more than rest and the next word of part. Once rest has a carry, it cannot be.
putRight:
	for carry == 0 {
		switch high, low := bits.Mul64(digit, second); {
		case high < rest, high == rest && low <= part[size-2]:
			break putRight
		}
		digit--
		rest, carry = bits.Add64(rest, first, 0)
	}
	return digit
}

// gcdOfWords returns the greatest common divisor of a and b; if one of them is 0, the other one.
func gcdOfWords(a, b uint64) uint64 {
	for b > 0 {
		a, b = b, a%b
	}
	return a
}
