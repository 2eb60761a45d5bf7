package interval

import (
	"iter"

	"concord/api"
	"concord/decimal"
	"concord/nat"
	"concord/ratio"
)

// base is that of the places of decimals.
const base = 10

// operation computes with decimals, and, where the result does not fit, with exact numbers.
type operation struct {
	fitting func(a, b api.Dec) (api.Dec, bool)
	exact   func(a, b api.Rat) api.Rat
}

// results returns the range with the bounds of the least and the greatest exact result of a bound of a and a bound of b, and whether there is at most one result of elements, which fits.
func (o operation) results(a, b api.Range) (api.Range, bool) {
	all := noRange()
	if Empty(a) || Empty(b) {
		return all, true
	}
	known := isSingle(a) && isSingle(b)
	// The order of numbers is that of their bounds, so the join of these has those of the least and the greatest number.
	for r, fits := range o.candidates(a, b) {
		all = Join(all, r)
		known = known && fits
	}
	return all, known
}

// candidates iterates the bounds of the exact results of a bound of a and a bound of b, and whether these fit.
func (o operation) candidates(a, b api.Range) iter.Seq2[api.Range, bool] {
	return func(yield func(api.Range, bool) bool) {
		for _, x := range [...]api.Dec{a.Low, a.High} {
			for _, y := range [...]api.Dec{b.Low, b.High} {
				if !yield(o.bounds(x, y)) {
					return
				}
			}
		}
	}
}

// bounds returns the bounds of the exact result of two decimals, and whether it fits.
func (o operation) bounds(x, y api.Dec) (api.Range, bool) {
	if a, ok := o.fitting(x, y); ok {
		return api.Range{Low: a, High: a}, true
	}
	// Both are right: others count as 0, with which all results fit.
	number := o.exact(toRatio(x), toRatio(y))
	return api.Range{Low: below(number), High: negative(below(ratio.Neg(number)))}, false
}

// toRatio returns the value of a right decimal.
func toRatio(a api.Dec) api.Rat {
	number, _ := ratio.Make(a.N < 0, nat.Of(max(a.N, -a.N)), nat.Of(unitsOfOne(a.Scale)))
	return number
}

// negative returns -a for a right decimal.
func negative(a api.Dec) api.Dec {
	return api.Dec{N: -a.N, Scale: a.Scale}
}

// below returns the greatest right decimal that is not greater than x; the least one, if there is none.
func below(x api.Rat) api.Dec {
	whole, ok := floor(x, 0)
	switch {
	case !ok && x.Neg:
		return Full().Low
	case !ok:
		return Full().High
	}
	// Where the multiple does not fit, decimals with as many places are all greater than x, or all at most a power of 10 that is not greater than x. So none of them is nearer than one with fewer places.
	for scale := api.MaxScale; scale > 0; scale-- {
		if a, ok := floor(x, scale); ok {
			return a
		}
	}
	return whole
}

// floor returns the greatest multiple of 10^-scale that is not greater than x, and true; false, if it does not fit.
func floor(x api.Rat, scale int) (api.Dec, bool) {
	units, rest, _ := nat.Quo(nat.Mul(x.Num, nat.Of(unitsOfOne(scale))), x.Den)
	n, ok := nat.Int(units)
	if !ok {
		return api.Dec{}, false
	}
	if x.Neg {
		n = -n
		if rest != "" {
			n--
		}
	}
	return decimal.Make(n, scale)
}

// unitsOfOne returns how many units of 10^-scale 1 has.
func unitsOfOne(scale int) int {
	units := 1
	for range scale {
		units *= base
	}
	return units
}
