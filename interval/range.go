package interval

import (
	"concord/api"
	"concord/decimal"
)

// noRange returns the empty range.
func noRange() api.Range {
	return api.Range{Low: api.Dec{N: 1}}
}

// canonical returns the range that all ranges with the elements of r are returned as.
func canonical(r api.Range) api.Range {
	if Empty(r) {
		return noRange()
	}
	return api.Range{Low: value(r.Low), High: value(r.High)}
}

// value returns what a counts as: a itself, or 0, if a is not right.
func value(a api.Dec) api.Dec {
	if decimal.Right(a) {
		return a
	}
	return api.Dec{}
}

// isSingle reports whether r has one element.
func isSingle(r api.Range) bool {
	return decimal.Cmp(r.Low, r.High) == 0
}

// hasAllMultiples reports whether all multiples of 10^-6 in r are decimals, as they are from -10^9 to 10^9. Then all sums in it fit. As the ends of these are decimals themselves, numbers are between them if their bounds are.
func hasAllMultiples(r api.Range) bool {
	limit := api.MaxUnits / unitsOfOne(api.MaxScale)
	return Within(r, api.Range{Low: api.Dec{N: -limit}, High: api.Dec{N: limit}})
}

// lesser returns the lesser one of a and b.
func lesser(a, b api.Dec) api.Dec {
	if decimal.Cmp(a, b) < 0 {
		return a
	}
	return b
}

// greater returns the greater one of a and b.
func greater(a, b api.Dec) api.Dec {
	if decimal.Cmp(a, b) > 0 {
		return a
	}
	return b
}
