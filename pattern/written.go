package pattern

import (
	"strconv"
	"strings"

	"concord/api"
)

const (
	escape       = '\\'
	specials     = `\{}+*`   // the characters of a literal that have an escape in front
	classLetters = "dulaso." // of the classes from 1 on
)

// isSpecial reports whether c has an escape in front, if it is a character of a literal.
func isSpecial(c byte) bool {
	return strings.IndexByte(specials, c) >= 0
}

// isRight reports whether a pattern is right.
func isRight(p []api.Piece) bool {
	_, ok := written(make([]byte, 0, api.MaxPattern), p)
	return ok
}

// written appends the written form of a right pattern to an empty form, and returns true; if the pattern is not right, false and any form.
func written(form []byte, p []api.Piece) ([]byte, bool) {
	for i, piece := range p {
		if !isRightPiece(piece) || i > 0 && isLiteral(piece) && isLiteral(p[i-1]) {
			return form, false
		}
		form = appendPiece(form, piece)
		if len(form) > api.MaxPattern {
			return form, false
		}
	}
	return form, true
}

// isLiteral reports whether a right piece is a literal.
func isLiteral(piece api.Piece) bool {
	return piece.Class == literal
}

// isRightPiece reports whether a piece is right, and short enough to be in a right pattern.
func isRightPiece(piece api.Piece) bool {
	if isLiteral(piece) {
		return piece.Least == 0 && piece.Most == 0 && piece.Text != "" && len(piece.Text) <= api.MaxPattern && allBelong(piece.Text, characters)
	}
	return digits <= piece.Class && piece.Class <= characters && 0 <= piece.Least && piece.Least <= piece.Most && 1 <= piece.Most && piece.Most <= api.MaxText && piece.Text == ""
}

// appendPiece appends the written form of a right piece.
func appendPiece(form []byte, piece api.Piece) []byte {
	if !isLiteral(piece) {
		form = append(form, escape, classLetters[piece.Class-1])
		return appendCount(form, piece.Least, piece.Most)
	}
	for i := range len(piece.Text) {
		if isSpecial(piece.Text[i]) {
			form = append(form, escape)
		}
		form = append(form, piece.Text[i])
	}
	return form
}

// appendCount appends how many characters a run has.
func appendCount(form []byte, least, most int) []byte {
	switch {
	case least == 1 && most == 1:
		return form
	case least == 1 && most == api.MaxText:
		return append(form, '+')
	case least == 0 && most == api.MaxText:
		return append(form, '*')
	}
	form = append(form, '{')
	form = strconv.AppendInt(form, int64(least), 10)
	if least != most {
		form = append(form, ',')
		form = strconv.AppendInt(form, int64(most), 10)
	}
	return append(form, '}')
}
