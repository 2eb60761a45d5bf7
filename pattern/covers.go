package pattern

import (
	"slices"

	"concord/api"
)

// coversEach reports whether each piece of p covers the piece of q at its place.
func coversEach(p, q []api.Piece) bool {
	return slices.EqualFunc(p, q, coversPiece)
}

// coversPiece reports whether a right piece covers another one.
func coversPiece(a, b api.Piece) bool {
	if isLiteral(a) {
		return a == b
	}
	least, most := lengths(b)
	return staysIn(b, a.Class) && a.Least <= least && most <= a.Most
}

// coversAll reports whether p is one run that has the characters of all pieces of q, and the lengths of what they match together.
func coversAll(p, q []api.Piece) bool {
	if len(p) != 1 || isLiteral(p[0]) {
		return false
	}
	least, most := 0, 0
	for _, piece := range q {
		if !staysIn(piece, p[0].Class) {
			return false
		}
		pieceLeast, pieceMost := lengths(piece)
		least += pieceLeast
		most += pieceMost
	}
	return p[0].Least <= least && min(most, api.MaxText) <= p[0].Most
}

// staysIn reports whether all characters that a right piece can contain belong to a class.
func staysIn(piece api.Piece, class int) bool {
	if isLiteral(piece) {
		return allBelong(piece.Text, class)
	}
	return contains(class, piece.Class)
}

// lengths returns the lengths of the shortest and of the longest text that a right piece matches.
func lengths(piece api.Piece) (least, most int) {
	if isLiteral(piece) {
		return len(piece.Text), len(piece.Text)
	}
	return piece.Least, piece.Most
}
