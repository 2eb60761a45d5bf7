package decimal

import "concord/api"

const (
	base      = 10
	maxPlaces = 18 // the greatest scale that Make takes
)

// primes are the factors of base: a product ends with 0, if one number has the one and the other number the other, or one number both.
var primes = [...]int{2, 5}

// value returns what a counts as: a itself, or 0, if a is not right.
func value(a api.Dec) api.Dec {
	if Right(a) {
		return a
	}
	return api.Dec{}
}

// abs returns the absolute value of n, which is not the least int.
func abs(n int) int {
	return max(n, -n)
}

// powerOfTen returns 10^digits, for at most 18 digits.
func powerOfTen(digits int) int {
	power := 1
	for range digits {
		power *= base
	}
	return power
}

// withoutZeros returns n / 10^scale with as few decimal places as possible, as such a quotient again.
func withoutZeros(n, scale int) (int, int) {
	zeros := 0
	for range scale {
		if n%base != 0 {
			break
		}
		n /= base
		zeros++
	}
	return n, scale - zeros
}

// parts returns a right decimal without its decimal places, and these places alone, both with its sign. So a decimal that is less than another one has a lesser first part, or the same and a lesser second part.
func parts(a api.Dec) (whole, rest int) {
	unit := powerOfTen(a.Scale)
	return a.N / unit, a.N % unit * powerOfTen(api.MaxScale-a.Scale)
}

// unitsOf returns the value of a right decimal in units of 10^-scale, where scale is not less than its own, and true; false, if these are more than 2 * MaxUnits. Then scale is greater than its own, and its sum with a right decimal of that scale does not fit: it does not end with 0, and has more than MaxUnits units.
func unitsOf(a api.Dec, scale int) (int, bool) {
	factor := powerOfTen(scale - a.Scale)
	if abs(a.N) > 2*api.MaxUnits/factor {
		return 0, false
	}
	return a.N * factor, true
}

// cancelled returns x times y / 10^scale with as few decimal places as possible, as such a quotient again. The product itself may not be an int, so what makes it end with 0 is taken out of x and y.
func cancelled(x, y, scale int) (int, int, int) {
	x, scale = withoutZeros(x, scale)
	y, scale = withoutZeros(y, scale)
	for i, ofX := range primes {
		ofY := primes[len(primes)-1-i]
		for scale > 0 && x%ofX == 0 && y%ofY == 0 {
			x, y, scale = x/ofX, y/ofY, scale-1
		}
	}
	return x, y, scale
}
