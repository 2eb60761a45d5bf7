package abstract

import (
	"concord/api"
	"concord/interval"
	"concord/shape"
)

// canonical returns the canonical form of a, which shares no memory with a.
func canonical(a api.Abstract) api.Abstract {
	c := None()
	c.Errs = a.Errs
	for kind := range kinds {
		if isEmptyPart(a, kind) {
			continue
		}
		c.Kinds |= 1 << kind
		switch kind {
		case api.Text:
			c.Texts = shape.Join(a.Texts, a.Texts)
		case api.Number:
			c.Numbers = interval.Join(a.Numbers, a.Numbers)
		case api.Date:
			c.Dates = interval.MeetSpan(a.Dates, allDays())
		case api.Bool:
			c.Bools = a.Bools & bothBools
		case api.Table:
			c.Rows = interval.MeetSpan(a.Rows, allCounts())
			c.Cols, c.Deps = increasing(a.Cols), differentDeps(a.Deps)
		}
	}
	return c
}
