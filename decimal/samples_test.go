package decimal_test

import (
	"math"
	"math/big"
	"testing"

	"concord/api"
)

// The tests of this package call exported functions only, and compare their results with those of math/big. Samples come from a generator with a fixed start, so that each run tests the same numbers.

// samples generates numbers.
type samples struct{ state uint64 }

// below returns a number from 0 to n - 1 (splitmix64).
func (s *samples) below(n int) int {
	s.state += 0x9e3779b97f4a7c15
	z := s.state
	z = (z ^ z>>30) * 0xbf58476d1ce4e5b9
	z = (z ^ z>>27) * 0x94d049bb133111eb
	return int((z ^ z>>31) % uint64(n))
}

// element returns an element of l.
func element[T any](s *samples, l []T) T { return l[s.below(len(l))] }

// units returns a number from 0 to MaxUnits of one of several forms: small, of any length, next to a power of 10, next to MaxUnits, or a product of 2s, 5s and 3s.
func (s *samples) units() int {
	switch s.below(5) {
	case 0:
		return s.below(200)
	case 1:
		return s.below(tenTo(1 + s.below(15)))
	case 2:
		return min(api.MaxUnits, max(0, (1+s.below(9))*tenTo(s.below(15))+s.below(3)-1))
	case 3:
		return api.MaxUnits - s.below(200)
	}
	return s.smooth()
}

// smooth returns a product of 2s, 5s and 3s that is not greater than MaxUnits.
func (s *samples) smooth() int {
	product, last := 1, 1+s.below(50)
	for range last {
		if factor := element(s, []int{2, 2, 2, 5, 5, 5, 3}); product <= api.MaxUnits/factor {
			product *= factor
		}
	}
	return product
}

// right returns a right decimal.
func (s *samples) right() api.Dec {
	for {
		a := api.Dec{N: s.units(), Scale: s.below(7)}
		if s.below(2) == 0 {
			a.N = -a.N
		}
		if isRight(a) {
			return a
		}
	}
}

// any returns a decimal that is right more often than not.
func (s *samples) any() api.Dec {
	if s.below(10) == 0 {
		return element(s, wrongDecimals())
	}
	return s.right()
}

// tenTo returns 10^n.
func tenTo(n int) int { return int(math.Pow10(n)) }

// smallDecimals returns the right decimals whose N is from -most to most.
func smallDecimals(most int) []api.Dec {
	var l []api.Dec
	for scale := range 7 {
		for n := -most; n <= most; n++ {
			if scale == 0 || n%10 != 0 {
				l = append(l, api.Dec{N: n, Scale: scale})
			}
		}
	}
	return l
}

// extremeInts returns ints next to the limits, and ints for which sums and products wrap around.
func extremeInts() []int {
	l := []int{0, api.MaxUnits, 2 * api.MaxUnits, 10 * api.MaxUnits, 1000 * api.MaxUnits, math.MaxInt, math.MinInt, math.MaxInt / 10, math.MinInt / 10}
	for _, shift := range []int{31, 32, 33, 49, 50, 60, 61, 62} {
		l = append(l, 1<<shift)
	}
	var near []int
	for _, n := range l {
		for by := -2; by <= 2; by++ {
			near = append(near, n+by, -n+by)
		}
	}
	return near
}

// extremeScales returns ints that are no scale of a right decimal.
func extremeScales() []int {
	return []int{-1, -2, -6, -7, -18, -19, 7, 8, 9, 12, 18, 19, 20, 62, 63, 64, 65, 70, 255, 256, 262, 1 << 31, 1<<32 + 1, -1 << 32, math.MaxInt, math.MinInt, math.MinInt + 6}
}

// wrongDecimals returns decimals that are not right, each for another reason.
func wrongDecimals() []api.Dec {
	var l []api.Dec
	for _, scale := range extremeScales() {
		l = append(l, api.Dec{N: 0, Scale: scale}, api.Dec{N: 1, Scale: scale}, api.Dec{N: -25, Scale: scale}, api.Dec{N: api.MaxUnits, Scale: scale}, api.Dec{N: math.MinInt, Scale: scale})
	}
	for scale := 1; scale <= 6; scale++ {
		l = append(l, api.Dec{N: 0, Scale: scale}, api.Dec{N: 10, Scale: scale}, api.Dec{N: -10, Scale: scale}, api.Dec{N: 1500, Scale: scale}, api.Dec{N: api.MaxUnits, Scale: scale}, api.Dec{N: -api.MaxUnits, Scale: scale})
	}
	for _, n := range extremeInts() {
		if n > api.MaxUnits || n < -api.MaxUnits {
			for scale := range 7 {
				l = append(l, api.Dec{N: n, Scale: scale})
			}
		}
	}
	return l
}

// isRight reports whether a is right, without the help of the package.
func isRight(a api.Dec) bool {
	switch {
	case a.Scale < 0, a.Scale > 6, a.N > api.MaxUnits, a.N < -api.MaxUnits:
		return false
	}
	return a.Scale == 0 || a.N/10*10 != a.N
}

// quotient returns n / 10^scale, for a scale that is not negative.
func quotient(n, scale int) *big.Rat {
	return new(big.Rat).SetFrac(big.NewInt(int64(n)), power(scale))
}

// power returns 10^n.
func power(n int) *big.Int {
	return new(big.Int).Exp(big.NewInt(10), big.NewInt(int64(n)), nil)
}

// toBig returns what a counts as: 0, if it is not right.
func toBig(a api.Dec) *big.Rat {
	if !isRight(a) {
		return new(big.Rat)
	}
	return quotient(a.N, a.Scale)
}

// fit returns the right decimal with this value, or false: that with the least scale for which it is a whole number of units.
func fit(value *big.Rat) (api.Dec, bool) {
	for scale := range 7 {
		units := new(big.Rat).Mul(value, new(big.Rat).SetInt(power(scale)))
		if !units.IsInt() {
			continue
		}
		if units.Num().CmpAbs(big.NewInt(api.MaxUnits)) > 0 {
			return api.Dec{}, false
		}
		return api.Dec{N: int(units.Num().Int64()), Scale: scale}, true
	}
	return api.Dec{}, false
}

// of returns the right decimal with this text, without the help of the package.
func of(t *testing.T, text string) api.Dec {
	t.Helper()
	value, ok := new(big.Rat).SetString(text)
	if !ok {
		t.Fatalf("%q is no number", text)
	}
	a, ok := fit(value)
	if !ok {
		t.Fatalf("%q does not fit", text)
	}
	return a
}

// check reports a result that is not the right decimal with the value want and true, or the zero decimal and false, if that does not fit. It returns whether it fits.
func check(t *testing.T, call string, got api.Dec, ok bool, want *big.Rat, args ...any) bool {
	t.Helper()
	if a, fits := fit(want); got != a || ok != fits {
		t.Fatalf("%s of %v = %v, %t, not %v, %t", call, args, got, ok, a, fits)
	}
	return ok
}

// checkNone reports a decimal that is not the zero one, or true.
func checkNone(t *testing.T, call string, got api.Dec, ok bool, args ...any) {
	t.Helper()
	if ok || got != (api.Dec{}) {
		t.Errorf("%s of %v = %v, %t", call, args, got, ok)
	}
}
