package value

import (
	"cmp"
	"slices"
	"strings"

	"concord/api"
	"concord/decimal"
)

// order says for each Kind how two right values of it are compared.
type order map[int]func(a, b api.Value) int

// orderOfValues returns the order of right values.
func orderOfValues() order {
	o := order{api.None: compareInts, api.Text: compareTexts, api.Number: compareDecimals, api.Date: compareInts, api.Bool: compareInts}
	compareColumns, compareRows := ofLists(strings.Compare), ofLists(ofLists(o.compare))
	o[api.Table] = func(a, b api.Value) int {
		return cmp.Or(compareColumns(a.Cols, b.Cols), compareRows(a.Rows, b.Rows))
	}
	return o
}

// compare returns a negative number, 0 or a positive number, as a is less than, equal to, or greater than b.
func (o order) compare(a, b api.Value) int {
	if a.Kind != b.Kind {
		return cmp.Compare(a.Kind, b.Kind)
	}
	return o[a.Kind](a, b)
}

// ofLists returns how lists are compared whose elements are compared by compare: a beginning is less than the whole.
func ofLists[T any](compare func(a, b T) int) func(a, b []T) int {
	return func(a, b []T) int {
		return slices.CompareFunc(a, b, compare)
	}
}

func compareInts(a, b api.Value) int {
	return cmp.Compare(a.N, b.N)
}

func compareTexts(a, b api.Value) int {
	return strings.Compare(a.S, b.S)
}

func compareDecimals(a, b api.Value) int {
	return decimal.Cmp(a.D, b.D)
}
