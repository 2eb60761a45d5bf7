package abstract

import (
	"concord/api"
	"concord/interval"
	"concord/shape"
	"concord/value"
)

// kinds is how many Kinds of values there are. (The first one, None, has no part.)
const kinds = api.Table + 1

// bothBools has the bits of both bools.
const bothBools = 3

// allDays returns the span of all day numbers.
func allDays() api.Span {
	return api.Span{High: api.MaxDay}
}

// allCounts returns the span of how many rows a table can have.
func allCounts() api.Span {
	return api.Span{High: api.MaxRows}
}

// hasKind reports whether the bit of a Kind is set.
func hasKind(a api.Abstract, kind int) bool {
	return a.Kinds>>kind&1 == 1
}

// isEmptyPart reports whether the part of a Kind is empty.
func isEmptyPart(a api.Abstract, kind int) bool {
	if !hasKind(a, kind) {
		return true
	}
	switch kind {
	case api.Text:
		return shape.Empty(a.Texts)
	case api.Number:
		return interval.Empty(a.Numbers)
	case api.Date:
		return haveNoneInCommon(a.Dates, allDays())
	case api.Bool:
		return a.Bools&bothBools == 0
	case api.Table:
		return haveNoneInCommon(a.Rows, allCounts()) || !canBeColumns(a.Cols)
	}
	return true
}

// canBeColumns reports whether a table can have columns with all of these names.
func canBeColumns(names []string) bool {
	return value.Right(api.Value{Kind: api.Table, Cols: different(names, itself)})
}

// partContains reports whether the part of the Kind of a right value contains it, if it has its bit.
func partContains(a api.Abstract, v api.Value) bool {
	switch v.Kind {
	case api.Text:
		return shape.Contains(a.Texts, v.S)
	case api.Number:
		return interval.Contains(a.Numbers, v.D)
	case api.Date:
		return isBetween(v.N, a.Dates)
	case api.Bool:
		return a.Bools>>v.N&1 == 1
	}
	return isBetween(len(v.Rows), a.Rows) && hasAll(v.Cols, a.Cols) && allHold(v, a.Deps)
}

// isPartWithin reports whether the part of a Kind of a is within that of b. Both are canonical forms, and that of a is not empty, so that it is not within an empty one.
func isPartWithin(a, b api.Abstract, kind int) bool {
	switch kind {
	case api.Text:
		return shape.Within(a.Texts, b.Texts)
	case api.Number:
		return interval.Within(a.Numbers, b.Numbers)
	case api.Date:
		return isSpanWithin(a.Dates, b.Dates)
	case api.Bool:
		return a.Bools&^b.Bools == 0
	}
	return isSpanWithin(a.Rows, b.Rows) && hasAll(a.Cols, b.Cols) && len(following(b.Deps, a)) == len(b.Deps)
}

// isBetween reports whether n is an element of s.
func isBetween(n int, s api.Span) bool {
	return s.Low <= n && n <= s.High
}

// isSpanWithin reports whether the ends of a are elements of b.
func isSpanWithin(a, b api.Span) bool {
	return isBetween(a.Low, b) && isBetween(a.High, b)
}

// haveNoneInCommon reports whether no int is an element of both spans.
func haveNoneInCommon(a, b api.Span) bool {
	both := interval.MeetSpan(a, b)
	return both.Low > both.High
}
