package nat

import "slices"

// montgomery multiplies modulo an odd number without dividing by it. With a modulus of n words it works on images: that of a is the rest of a times 2^(64 n), in n words, which need not be trimmed.
type montgomery struct {
	modulus []uint64
	inverse uint64 // times the modulus it is -1 modulo 2^64
}

// montgomeryBy returns what computes modulo this odd number.
func montgomeryBy(modulus []uint64) montgomery {
	// Modulo 8 an odd number is its own inverse; each step doubles the number of bits that are right.
	inverse := modulus[0]
	for right := 3; right < wordBits; right *= 2 {
		inverse *= 2 - modulus[0]*inverse
	}
	return montgomery{modulus: modulus, inverse: -inverse}
}

// image returns the image of a.
func (m montgomery) image(a []uint64) []uint64 {
	_, rest := divide(trimmed(slices.Concat(make([]uint64, len(m.modulus)), a)), m.modulus)
	return m.padded(rest)
}

// number returns the number, not trimmed, of which this is the image.
func (m montgomery) number(image []uint64) []uint64 {
	return m.product(image, m.padded([]uint64{1}))
}

// padded returns a in as many words as the modulus has.
func (m montgomery) padded(a []uint64) []uint64 {
	words := make([]uint64, len(m.modulus))
	copy(words, a)
	return words
}

// product returns the image of the product of the two numbers whose images are a and b.
func (m montgomery) product(a, b []uint64) []uint64 {
	size := len(m.modulus)
	total := make([]uint64, 2*size+1)
	for i, word := range b {
		addWordTo(total[i+size:], addMultiple(total[i:], a, word))
		// A multiple of the modulus makes the word i 0, so that it can be left out of the quotient.
		addWordTo(total[i+size:], addMultiple(total[i:], m.modulus, total[i]*m.inverse))
	}
	quotient := total[size:]
	if compare(trimmed(quotient), m.modulus) >= 0 {
		subtractFrom(quotient, m.modulus)
	}
	return quotient[:size]
}
