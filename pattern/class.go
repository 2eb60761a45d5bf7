package pattern

import "concord/api"

const (
	firstCharacter = ' '
	lastCharacter  = '~'
)

// The classes of pieces.
const (
	literal = iota // no class: the piece is a text
	digits
	upperCase
	lowerCase
	letters
	blanks
	others
	characters
)

// isText reports whether s is a text.
func isText(s string) bool {
	return len(s) <= api.MaxText && allBelong(s, characters)
}

// allBelong reports whether all bytes of s are characters of a class.
func allBelong(s string, class int) bool {
	for i := range len(s) {
		if !belongs(s[i], class) {
			return false
		}
	}
	return true
}

// belongs reports whether c is a character of a class.
func belongs(c byte, class int) bool {
	least := Class(c)
	return least != 0 && contains(class, least)
}

// contains reports whether all characters of the class inner are in the class outer.
func contains(outer, inner int) bool {
	switch outer {
	case characters:
		return true
	case letters:
		return inner == upperCase || inner == lowerCase || inner == letters
	}
	return inner == outer
}
