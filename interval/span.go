package interval

import (
	"math"

	"concord/api"
)

// JoinSpan returns the least span that contains all elements of a and b.
func JoinSpan(a, b api.Span) api.Span {
	switch {
	case isEmptySpan(a):
		return canonicalSpan(b)
	case isEmptySpan(b):
		return a
	}
	return api.Span{Low: min(a.Low, b.Low), High: max(a.High, b.High)}
}

// MeetSpan returns the span of the common elements of a and b.
func MeetSpan(a, b api.Span) api.Span {
	return canonicalSpan(api.Span{Low: max(a.Low, b.Low), High: min(a.High, b.High)})
}

// AddSpan returns the span of the sums of an element of a and one of b that are elements of limits, and whether all of them are.
func AddSpan(a, b, limits api.Span) (api.Span, bool) {
	if isEmptySpan(a) || isEmptySpan(b) {
		return noSpan(), true
	}
	low, lowSide := sum(a.Low, b.Low)
	high, highSide := sum(a.High, b.High)
	if lowSide > 0 || highSide < 0 {
		return noSpan(), false
	}
	sums := api.Span{Low: low, High: high}
	common := MeetSpan(sums, limits)
	return common, common == sums && lowSide == 0 && highSide == 0
}

// sum returns a + b and 0; the greatest int and 1, if all ints are less than it; and the least int and -1, if all ints are greater.
func sum(a, b int) (n, side int) {
	switch {
	case b > 0 && a > math.MaxInt-b:
		return math.MaxInt, 1
	case b < 0 && a < math.MinInt-b:
		return math.MinInt, -1
	}
	return a + b, 0
}

// noSpan returns the empty span.
func noSpan() api.Span {
	return api.Span{Low: 1}
}

// isEmptySpan reports whether s has no elements.
func isEmptySpan(s api.Span) bool {
	return s.Low > s.High
}

// canonicalSpan returns the span that all spans with the elements of s are returned as.
func canonicalSpan(s api.Span) api.Span {
	if isEmptySpan(s) {
		return noSpan()
	}
	return s
}
