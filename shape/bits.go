package shape

import (
	"concord/api"
	"concord/pattern"
)

// The classes of pieces that contain others.
const (
	letters    = 4
	characters = 7
)

// The bits of the classes that contain no others.
const (
	digitBit = 1 << (1 + iota)
	upperBit
	lowerBit
	_
	blankBit
	otherBit
	allBits = digitBit | upperBit | lowerBit | blankBit | otherBit
)

// classBits returns the class bits of s; among them 1, which no class has, if not all of its bytes are characters.
func classBits(s string) int {
	bits := 0
	for i := range len(s) {
		bits |= 1 << pattern.Class(s[i])
	}
	return bits
}

// isText reports whether s is a text.
func isText(s string) bool {
	return len(s) <= api.MaxText && classBits(s)&^allBits == 0
}

// bitsOfClass returns the class bits that characters of a class of pieces can have.
func bitsOfClass(class int) int {
	switch class {
	case letters:
		return upperBit | lowerBit
	case characters:
		return allBits
	}
	return 1 << class
}

// replaceBit returns bits with one of them replaced by another one, if it is set.
func replaceBit(bits, from, to int) int {
	if bits&from == 0 {
		return bits
	}
	return bits&^from | to
}
