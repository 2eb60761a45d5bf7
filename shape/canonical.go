package shape

import (
	"strconv"
	"strings"

	"concord/api"
)

// noShape returns the empty shape.
func noShape() api.Shape {
	return api.Shape{Least: 1}
}

// canonical returns the shape with the texts of a that has the least and the greatest length of a, and its own bits; the empty shape, if a contains no text.
func canonical(a api.Shape) api.Shape {
	a.Least = max(a.Least, len(a.Begin), len(a.End))
	a.Most = min(a.Most, api.MaxText)
	a.Classes &= allBits
	if !hasText(a) {
		return noShape()
	}
	return a
}

// hasText reports whether a shape with these lengths and bits contains a text.
func hasText(a api.Shape) bool {
	if (classBits(a.Begin)|classBits(a.End))&^a.Classes != 0 {
		return false
	}
	for length := a.Most; length >= a.Least; length-- {
		if canHaveLength(a, length) {
			return true
		}
	}
	return false
}

// canHaveLength reports whether a text as long as Begin and as End, or longer, can have these ends, and characters of the classes between them.
func canHaveLength(a api.Shape, length int) bool {
	overlap := len(a.Begin) + len(a.End) - length
	if overlap < 0 {
		return a.Classes != 0
	}
	return strings.HasPrefix(a.End, a.Begin[len(a.Begin)-overlap:])
}

// isFixed reports whether a canonical shape contains its Begin alone.
func isFixed(a api.Shape) bool {
	return a.Least == a.Most && a.Least == len(a.Begin)
}

// inOneCase returns a canonical shape with letters of the one case replaced by those of the other one. The empty shape has none.
func inOneCase(a api.Shape, from, to int, replaced func(string) string) api.Shape {
	a.Classes = replaceBit(a.Classes, from, to)
	a.Begin, a.End = replaced(a.Begin), replaced(a.End)
	return a
}

// ofPiece returns the shape of the texts that a right piece matches.
func ofPiece(piece api.Piece) api.Shape {
	if piece.Class == 0 {
		return Of(piece.Text)
	}
	return api.Shape{Least: piece.Least, Most: piece.Most, Classes: bitsOfClass(piece.Class)}
}

// counted returns s with its length in front, so that it can be told where s ends.
func counted(s string) string {
	return strconv.Itoa(len(s)) + ":" + s
}
