package abstract_test

import (
	"fmt"
	"regexp"
	"slices"
	"strings"

	"concord/api"
	"concord/decimal"
	"concord/interval"
	"concord/shape"
	"concord/table"
	"concord/value"
)

// What the results have to be, by the words of the document, which defines them by functions of the layers below.

var nameForm = regexp.MustCompile(`^[a-zA-Z][a-zA-Z0-9_]{0,19}$`)

// sorted returns the different names of a list in increasing order.
func sorted(l []string) []string {
	set := map[string]bool{}
	for _, name := range l {
		set[name] = true
	}
	var all []string
	for name := range set {
		at := 0
		for at < len(all) && all[at] < name {
			at++
		}
		all = slices.Insert(all, at, name)
	}
	return all
}

// sameDep reports whether two dependencies are equal.
func sameDep(a, b api.Dep) bool {
	return a.To == b.To && slices.Equal(a.From, b.From)
}

// wantedForm returns the canonical form.
func wantedForm(a api.Abstract) api.Abstract {
	c := nothing()
	c.Errs = a.Errs
	if a.Kinds&2 != 0 && !shape.Empty(a.Texts) {
		c.Kinds += 2
		c.Texts = shape.Join(a.Texts, a.Texts)
	}
	if a.Kinds&4 != 0 && !interval.Empty(a.Numbers) {
		c.Kinds += 4
		c.Numbers = interval.Join(a.Numbers, a.Numbers)
	}
	if low, high := max(0, a.Dates.Low), min(3652058, a.Dates.High); a.Kinds&8 != 0 && low <= high {
		c.Kinds += 8
		c.Dates = api.Span{Low: low, High: high}
	}
	if bools := a.Bools & 3; a.Kinds&16 != 0 && bools > 0 {
		c.Kinds += 16
		c.Bools = bools
	}
	if low, high := max(0, a.Rows.Low), min(100, a.Rows.High); a.Kinds&32 != 0 && low <= high && areNames(sorted(a.Cols)) {
		c.Kinds += 32
		c.Rows = api.Span{Low: low, High: high}
		c.Cols = sorted(a.Cols)
		for _, d := range a.Deps {
			if !slices.ContainsFunc(c.Deps, func(other api.Dep) bool { return sameDep(d, other) }) {
				c.Deps = append(c.Deps, d)
			}
		}
	}
	return c
}

// areNames reports whether there are at most 8 names, and nothing else.
func areNames(l []string) bool {
	for _, name := range l {
		if !nameForm.MatchString(name) {
			return false
		}
	}
	return len(l) < 9
}

func wantedFull(kind int) api.Abstract {
	a := everything()
	a.Errs = kind == 0
	a.Kinds = 0
	if kind > 0 && kind < 6 {
		a.Kinds = 1 << kind
	}
	return wantedForm(a)
}

func wantedOf(v api.Value) api.Abstract {
	if !value.Right(v) {
		return nothing()
	}
	return wantedForm(api.Abstract{
		Kinds: []int{0, 2, 4, 8, 16, 32}[v.Kind], Errs: v.Kind == 0, Texts: shape.Of(v.S), Numbers: api.Range{Low: v.D, High: v.D}, Dates: api.Span{Low: v.N, High: v.N}, Bools: v.N%2 + 1,
		Rows: api.Span{Low: len(v.Rows), High: len(v.Rows)}, Cols: v.Cols, Deps: table.Keys(v.Cols, v.Rows),
	})
}

func wantedEmpty(a api.Abstract) bool {
	return fields(wantedForm(a)) == fields(nothing())
}

func wantedContains(a api.Abstract, v api.Value) bool {
	if !value.Right(v) {
		return false
	}
	switch v.Kind {
	case 0:
		return a.Errs
	case 1:
		return a.Kinds&2 != 0 && shape.Contains(a.Texts, v.S)
	case 2:
		return a.Kinds&4 != 0 && interval.Contains(a.Numbers, v.D)
	case 3:
		return a.Kinds&8 != 0 && !(v.N < a.Dates.Low || v.N > a.Dates.High)
	case 4:
		return a.Kinds&16 != 0 && (v.N == 0 && a.Bools&1 != 0 || v.N == 1 && a.Bools&2 != 0)
	}
	for _, name := range a.Cols {
		if !slices.Contains(v.Cols, name) {
			return false
		}
	}
	for _, d := range a.Deps {
		if !table.Holds(v.Cols, v.Rows, d) {
			return false
		}
	}
	return a.Kinds&32 != 0 && !(len(v.Rows) < a.Rows.Low || len(v.Rows) > a.Rows.High)
}

// follows reports whether a dependency follows from the part of Table of a canonical form.
func follows(d api.Dep, a api.Abstract) bool {
	reached := slices.Clone(d.From)
	for range a.Deps {
		for _, other := range a.Deps {
			if !slices.ContainsFunc(other.From, func(name string) bool { return !slices.Contains(reached, name) }) {
				reached = append(reached, other.To)
			}
		}
		reached = sorted(reached)
	}
	known := slices.Clone(a.Cols)
	for _, other := range a.Deps {
		known = append(append(known, other.To), other.From...)
	}
	for _, name := range append(names(d.To), d.From...) {
		if !slices.Contains(known, name) {
			return false
		}
	}
	return slices.Contains(reached, d.To)
}

func wantedJoin(a, b api.Abstract) api.Abstract {
	a, b = wantedForm(a), wantedForm(b)
	c := api.Abstract{
		Kinds: a.Kinds | b.Kinds, Errs: a.Errs || b.Errs, Bools: a.Bools | b.Bools, Texts: shape.Join(a.Texts, b.Texts), Numbers: interval.Join(a.Numbers, b.Numbers),
		Dates: interval.JoinSpan(a.Dates, b.Dates), Rows: interval.JoinSpan(a.Rows, b.Rows),
	}
	if a.Kinds&32 == 0 || b.Kinds&32 == 0 {
		c.Cols, c.Deps = slices.Concat(a.Cols, b.Cols), slices.Concat(a.Deps, b.Deps)
		return wantedForm(c)
	}
	for _, name := range a.Cols {
		for _, other := range b.Cols {
			if name == other {
				c.Cols = append(c.Cols, name)
			}
		}
	}
	for _, d := range a.Deps {
		if follows(d, b) {
			c.Deps = append(c.Deps, d)
		}
	}
	for _, d := range b.Deps {
		if follows(d, a) {
			c.Deps = append(c.Deps, d)
		}
	}
	return wantedForm(c)
}

func wantedMeet(a, b api.Abstract) api.Abstract {
	a, b = wantedForm(a), wantedForm(b)
	return wantedForm(api.Abstract{
		Kinds: a.Kinds & b.Kinds, Errs: a.Errs && b.Errs, Bools: a.Bools & b.Bools, Texts: shape.Meet(a.Texts, b.Texts), Numbers: interval.Meet(a.Numbers, b.Numbers),
		Dates: interval.MeetSpan(a.Dates, b.Dates), Rows: interval.MeetSpan(a.Rows, b.Rows), Cols: append(slices.Clone(a.Cols), b.Cols...), Deps: append(slices.Clone(a.Deps), b.Deps...),
	})
}

func wantedWithin(a, b api.Abstract) bool {
	a, b = wantedForm(a), wantedForm(b)
	has := func(bit int) bool { return a.Kinds&bit != 0 }
	isPart := func(a, b api.Span) bool { return b.Low <= a.Low && a.High <= b.High }
	if a.Kinds|b.Kinds != b.Kinds || a.Errs && !b.Errs {
		return false
	}
	if has(2) && !shape.Within(a.Texts, b.Texts) || has(4) && !interval.Within(a.Numbers, b.Numbers) || has(8) && !isPart(a.Dates, b.Dates) || has(16) && a.Bools|b.Bools != b.Bools || has(32) && !isPart(a.Rows, b.Rows) {
		return false
	}
	if !has(32) {
		return true
	}
	for _, name := range b.Cols {
		if !slices.Contains(a.Cols, name) {
			return false
		}
	}
	for _, d := range b.Deps {
		if !follows(d, a) {
			return false
		}
	}
	return true
}

func wantedSingle(a api.Abstract) (api.Value, bool) {
	a = wantedForm(a)
	if a.Errs {
		return api.Value{}, false
	}
	switch a.Kinds {
	case 2:
		if length := len(a.Texts.Begin); a.Texts.Least == length && a.Texts.Most == length {
			return text(a.Texts.Begin), true
		}
	case 4:
		if decimal.Cmp(a.Numbers.Low, a.Numbers.High) == 0 {
			return api.Value{Kind: 2, D: a.Numbers.Low}, true
		}
	case 8:
		if a.Dates.Low == a.Dates.High {
			return day(a.Dates.Low), true
		}
	case 16:
		if a.Bools == 1 || a.Bools == 2 {
			return truth(a.Bools - 1), true
		}
	}
	return api.Value{}, false
}

func wantedText(a api.Abstract) string {
	a = wantedForm(a)
	var parts []string
	for _, part := range []struct {
		bit  int
		text string
	}{
		{2, fmt.Sprintf("text(%s)", shape.Text(a.Texts))},
		{4, fmt.Sprintf("number(%s)", interval.Text(a.Numbers))},
		{8, fmt.Sprintf("date(%d..%d)", a.Dates.Low, a.Dates.High)},
		{16, fmt.Sprintf("bool(%d)", a.Bools)},
		{32, fmt.Sprintf("table(%d..%d %s%s)", a.Rows.Low, a.Rows.High, strings.Join(a.Cols, ","), wantedTextOfDeps(a.Deps))},
	} {
		if a.Kinds&part.bit != 0 {
			parts = append(parts, part.text)
		}
	}
	if a.Errs {
		parts = append(parts, "error")
	}
	if len(parts) == 0 {
		return "none"
	}
	return strings.Join(parts, " ")
}

func wantedTextOfDeps(l []api.Dep) string {
	all := ""
	for _, d := range l {
		all += " " + strings.Join(d.From, ",") + ">" + d.To
	}
	return all
}
