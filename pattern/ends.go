package pattern

import (
	"iter"
	"strings"

	"concord/api"
)

// none stands in place of an end, where there is none.
const none = -1

// endsOf returns, in order, where the parts of s end that begin at a place and that a right piece matches.
func endsOf(piece api.Piece, s string, place int) iter.Seq[int] {
	return func(yield func(int) bool) {
		if isLiteral(piece) {
			if strings.HasPrefix(s[place:], piece.Text) {
				yield(place + len(piece.Text))
			}
			return
		}
		for end := place; end <= min(len(s), place+piece.Most); end++ {
			if end > place && !belongs(s[end-1], piece.Class) {
				return
			}
			if end >= place+piece.Least && !yield(end) {
				return
			}
		}
	}
}

// greatestEnds returns, for each place of s and for its end, where the longest part ends that begins there and that a right pattern matches.
func greatestEnds(p []api.Piece, s string) []int {
	greatest := make([]int, len(s)+1)
	for place := range greatest {
		greatest[place] = place
	}
	for i := range p {
		piece := p[len(p)-1-i]
		// No part ends before its place, so what the places had for the pieces after this one can be replaced from the front.
		for place := range greatest {
			longest := none
			for end := range endsOf(piece, s, place) {
				longest = max(longest, greatest[end])
			}
			greatest[place] = longest
		}
	}
	return greatest
}

// finds returns, in order, where the finds of a pattern in s begin and end.
func finds(p []api.Piece, s string) iter.Seq2[int, int] {
	return func(yield func(int, int) bool) {
		if !isRight(p) || !isText(s) {
			return
		}
		place := 0
		for begin, end := range greatestEnds(p, s) {
			if begin < place || end <= begin {
				continue
			}
			if !yield(begin, end) {
				return
			}
			place = end
		}
	}
}
