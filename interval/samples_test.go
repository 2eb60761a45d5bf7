package interval_test

import (
	"math"
	"math/big"
	"strings"
	"testing"

	"concord/api"
)

// The tests of this package call exported functions only, and compare their results with those of math/big. Samples come from a generator with a fixed start, so that each run tests the same ones.

// samples generates decimals, ranges and spans.
type samples struct{ state uint64 }

// below returns a number from 0 to n - 1 (splitmix64).
func (s *samples) below(n int) int {
	s.state += 0x9e3779b97f4a7c15
	z := s.state
	z = (z ^ z>>30) * 0xbf58476d1ce4e5b9
	z = (z ^ z>>27) * 0x94d049bb133111eb
	return int((z ^ z>>31) % uint64(n))
}

// element returns an element of l.
func element[T any](s *samples, l []T) T { return l[s.below(len(l))] }

// units returns a number from 0 to MaxUnits: small, of any length, next to a power of 10, or next to MaxUnits.
func (s *samples) units() int {
	switch s.below(4) {
	case 0:
		return s.below(200)
	case 1:
		return s.below(tenTo(1 + s.below(15)))
	case 2:
		return max(0, (1+s.below(9))*tenTo(s.below(15))+s.below(3)-1)
	}
	return api.MaxUnits - s.below(200)
}

// right returns a right decimal.
func (s *samples) right() api.Dec {
	for {
		a := api.Dec{N: s.units(), Scale: s.below(7)}
		if s.below(2) == 0 {
			a.N = -a.N
		}
		if isRight(a) {
			return a
		}
	}
}

// bound returns a decimal that is right more often than not.
func (s *samples) bound() api.Dec {
	if s.below(12) == 0 {
		return element(s, wrongDecimals())
	}
	return s.right()
}

// numbers returns a range of any decimals; many have the lesser one as Low, some are single.
func (s *samples) numbers() api.Range {
	r := api.Range{Low: s.bound(), High: s.bound()}
	switch {
	case s.below(8) == 0:
		r.High = r.Low
	case s.below(8) > 0 && endsOf(r).isEmpty():
		r.Low, r.High = r.High, r.Low
	}
	return r
}

// someRanges returns ranges of all forms.
func someRanges(count int, state uint64) []api.Range {
	s := &samples{state: state}
	var l []api.Range
	for range count {
		l = append(l, s.numbers())
	}
	return append(l, api.Range{}, emptyRange(), allNumbers(), api.Range{Low: api.Dec{N: 10, Scale: 1}, High: api.Dec{N: math.MinInt}}, api.Range{Low: api.Dec{N: 1}, High: api.Dec{N: 20, Scale: 1}})
}

// smallDecimals returns decimals from -2 to 2 in increasing order, quarters and others.
func smallDecimals() []api.Dec {
	return []api.Dec{{N: -2}, {N: -175, Scale: 2}, {N: -15, Scale: 1}, {N: -1}, {N: -25, Scale: 2}, {N: -1, Scale: 6}, {}, {N: 1, Scale: 6}, {N: 5, Scale: 1}, {N: 1}, {N: 1000001, Scale: 6}, {N: 15, Scale: 1}, {N: 2}}
}

// smallRanges returns all ranges of every second one of the small decimals, also those without elements; so the others are between, before and behind the bounds.
func smallRanges() []api.Range {
	var l []api.Range
	bounds := smallDecimals()
	for i := 1; i < len(bounds); i += 2 {
		for k := 1; k < len(bounds); k += 2 {
			l = append(l, api.Range{Low: bounds[i], High: bounds[k]})
		}
	}
	return append(l, api.Range{Low: api.Dec{N: 10, Scale: 1}, High: api.Dec{N: 1}}, api.Range{Low: api.Dec{N: -1}, High: api.Dec{N: 1, Scale: 7}}, api.Range{Low: api.Dec{N: 1}, High: api.Dec{N: 1, Scale: -1}})
}

// tenTo returns 10^n.
func tenTo(n int) int { return int(math.Pow10(n)) }

// extremeInts returns ints next to the ends of the type, and ints for which sums and products wrap around.
func extremeInts() []int {
	var near []int
	for _, n := range []int{0, 1000000, api.MaxUnits, 10 * api.MaxUnits, math.MaxInt, math.MinInt, math.MaxInt / 10, 1 << 31, 1 << 32, 1 << 61, 1 << 62} {
		for by := -2; by <= 2; by++ {
			near = append(near, n+by, -n+by)
		}
	}
	return near
}

// extremeScales returns ints that are no scale of a right decimal.
func extremeScales() []int {
	return []int{-1, -6, -7, -18, 7, 8, 12, 13, 18, 19, 20, 63, 64, 255, 256, 262, 1 << 31, 1<<32 + 1, math.MaxInt, math.MinInt, math.MinInt + 6}
}

// wrongDecimals returns decimals that are not right, each for another reason.
func wrongDecimals() []api.Dec {
	var l []api.Dec
	for _, scale := range extremeScales() {
		l = append(l, api.Dec{N: 0, Scale: scale}, api.Dec{N: 1, Scale: scale}, api.Dec{N: -25, Scale: scale}, api.Dec{N: math.MinInt, Scale: scale})
	}
	for scale := 1; scale <= 6; scale++ {
		l = append(l, api.Dec{N: 0, Scale: scale}, api.Dec{N: 10, Scale: scale}, api.Dec{N: -1500, Scale: scale}, api.Dec{N: api.MaxUnits, Scale: scale})
	}
	for _, n := range extremeInts() {
		if n > api.MaxUnits || n < -api.MaxUnits {
			l = append(l, api.Dec{N: n}, api.Dec{N: n, Scale: 1}, api.Dec{N: n, Scale: 6})
		}
	}
	return l
}

// isRight reports whether a is right, without the help of the program.
func isRight(a api.Dec) bool {
	switch {
	case a.Scale < 0, a.Scale > 6, a.N > api.MaxUnits, a.N < -api.MaxUnits:
		return false
	}
	return a.Scale == 0 || a.N/10*10 != a.N
}

// quotient returns n / 10^scale, for a scale that is not negative.
func quotient(n, scale int) *big.Rat {
	return new(big.Rat).SetFrac(big.NewInt(int64(n)), power(scale))
}

// power returns 10^n.
func power(n int) *big.Int {
	return new(big.Int).Exp(big.NewInt(10), big.NewInt(int64(n)), nil)
}

// toBig returns what a counts as: 0, if it is not right.
func toBig(a api.Dec) *big.Rat {
	if !isRight(a) {
		return new(big.Rat)
	}
	return quotient(a.N, a.Scale)
}

// fit returns the right decimal with this value, or false: that with the least scale for which it is a whole number of units.
func fit(value *big.Rat) (api.Dec, bool) {
	for scale := range 7 {
		units := new(big.Rat).Mul(value, new(big.Rat).SetInt(power(scale)))
		if !units.IsInt() {
			continue
		}
		if units.Num().CmpAbs(big.NewInt(api.MaxUnits)) > 0 {
			return api.Dec{}, false
		}
		return api.Dec{N: int(units.Num().Int64()), Scale: scale}, true
	}
	return api.Dec{}, false
}

// ends are the values of the bounds of a range.
type ends struct{ low, high *big.Rat }

func endsOf(r api.Range) ends { return ends{toBig(r.Low), toBig(r.High)} }

func (e ends) isEmpty() bool { return e.low.Cmp(e.high) > 0 }

func (e ends) contain(value *big.Rat) bool {
	return e.low.Cmp(value) <= 0 && value.Cmp(e.high) <= 0
}

// toRange returns the range with these bounds as it is returned.
func (e ends) toRange(t *testing.T) api.Range {
	t.Helper()
	if e.isEmpty() {
		return emptyRange()
	}
	low, lowFits := fit(e.low)
	high, highFits := fit(e.high)
	if !lowFits || !highFits {
		t.Fatalf("a bound of %s..%s does not fit", e.low, e.high)
	}
	return api.Range{Low: low, High: high}
}

func lesser(a, b *big.Rat) *big.Rat {
	if a.Cmp(b) < 0 {
		return a
	}
	return b
}

func greater(a, b *big.Rat) *big.Rat {
	if a.Cmp(b) > 0 {
		return a
	}
	return b
}

func emptyRange() api.Range { return api.Range{Low: api.Dec{N: 1}} }

func allNumbers() api.Range {
	return api.Range{Low: api.Dec{N: -1000000000000000}, High: api.Dec{N: 1000000000000000}}
}

// of returns the range with this text, of right decimals, without the help of the program; the one decimal, if there is no .. in it.
func of(t *testing.T, text string) api.Range {
	t.Helper()
	if text == "empty" {
		return emptyRange()
	}
	low, high, ok := strings.Cut(text, "..")
	if !ok {
		high = low
	}
	return api.Range{Low: decimalOf(t, low), High: decimalOf(t, high)}
}

// decimalOf returns the right decimal with this text.
func decimalOf(t *testing.T, text string) api.Dec {
	t.Helper()
	value, ok := new(big.Rat).SetString(text)
	if !ok {
		t.Fatalf("%q is no number", text)
	}
	a, ok := fit(value)
	if !ok {
		t.Fatalf("%q does not fit", text)
	}
	return a
}
