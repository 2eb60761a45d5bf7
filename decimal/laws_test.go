package decimal_test

import (
	"testing"

	"concord/api"
	"concord/decimal"
)

// P4.6: the consequences, without another implementation beside the package.

// near returns a right decimal, small more often than not, so that sums and products of several of them fit.
func near(s *samples) api.Dec {
	if s.below(4) == 0 {
		return s.right()
	}
	for {
		a := api.Dec{N: s.below(4001) - 2000, Scale: s.below(3)}
		if isRight(a) {
			return a
		}
	}
}

// tries is the number of samples for each law; a law whose results do not fit in most of them is not tested well.
const tries = 30000

// enough reports a law that was compared for too few samples.
func enough(t *testing.T, compared int) {
	t.Helper()
	if compared < tries/4 {
		t.Errorf("compared only %d of %d samples", compared, tries)
	}
}

func TestSumsAndProductsAreCommutative(t *testing.T) {
	s := &samples{state: 50}
	compared := 0
	for range tries {
		a, b := near(s), near(s)
		for _, call := range []func(a, b api.Dec) (api.Dec, bool){decimal.Add, decimal.Mul} {
			x, xFits := call(a, b)
			y, yFits := call(b, a)
			if x != y || xFits != yFits {
				t.Fatalf("%v, %t and %v, %t from %v and %v", x, xFits, y, yFits, a, b)
			}
			if xFits {
				compared++
			}
		}
	}
	enough(t, compared)
}

func TestSumsAndProductsAreAssociative(t *testing.T) {
	for i, call := range []func(a, b api.Dec) (api.Dec, bool){decimal.Add, decimal.Mul} {
		s := &samples{state: uint64(51 + i)}
		compared := 0
		for range tries {
			a, b, c := near(s), near(s), near(s)
			ab, abFits := call(a, b)
			bc, bcFits := call(b, c)
			x, xFits := call(ab, c)
			y, yFits := call(a, bc)
			if !abFits || !bcFits {
				continue
			}
			if x != y || xFits != yFits {
				t.Fatalf("%v, %t and %v, %t from %v, %v, %v", x, xFits, y, yFits, a, b, c)
			}
			if xFits {
				compared++
			}
		}
		enough(t, compared)
	}
}

func TestProductsDistributeOverSums(t *testing.T) {
	s := &samples{state: 53}
	compared := 0
	for range tries {
		a, b, c := near(s), near(s), near(s)
		sum, sumFits := decimal.Add(b, c)
		x, xFits := decimal.Mul(a, sum)
		ab, abFits := decimal.Mul(a, b)
		ac, acFits := decimal.Mul(a, c)
		y, yFits := decimal.Add(ab, ac)
		if !sumFits || !abFits || !acFits {
			continue
		}
		if x != y || xFits != yFits {
			t.Fatalf("%v, %t and %v, %t from %v, %v, %v", x, xFits, y, yFits, a, b, c)
		}
		if xFits {
			compared++
		}
	}
	enough(t, compared)
}

func TestZeroAndOneChangeNothing(t *testing.T) {
	s := &samples{state: 54}
	for range tries {
		a := s.right()
		sum, sumFits := decimal.Add(a, api.Dec{})
		product, productFits := decimal.Mul(a, api.Dec{N: 1})
		nothing, nothingFits := decimal.Mul(a, api.Dec{})
		difference, differenceFits := decimal.Sub(a, a)
		if sum != a || product != a || nothing != (api.Dec{}) || difference != (api.Dec{}) || !sumFits || !productFits || !nothingFits || !differenceFits {
			t.Fatalf("%v: %v, %v, %v, %v", a, sum, product, nothing, difference)
		}
	}
}

func TestSubUndoesAdd(t *testing.T) {
	s := &samples{state: 55}
	compared := 0
	for range tries {
		a, b := near(s), near(s)
		sum, ok := decimal.Add(a, b)
		if !ok {
			continue
		}
		compared++
		if c, ok := decimal.Sub(sum, b); c != a || !ok {
			t.Fatalf("Sub(Add(%v, %v), %v) = %v, %t", a, b, b, c, ok)
		}
		if c, ok := decimal.Add(less(t, sum, a), a); c != sum || !ok {
			t.Fatalf("%v less %v and more again is %v, %t", sum, a, c, ok)
		}
	}
	enough(t, compared)
}

// less returns a - b, which must fit.
func less(t *testing.T, a, b api.Dec) api.Dec {
	t.Helper()
	d, ok := decimal.Sub(a, b)
	if !ok {
		t.Fatalf("Sub(%v, %v) does not fit", a, b)
	}
	return d
}

func TestCmpIsTotalOrder(t *testing.T) {
	s := &samples{state: 56}
	for range tries {
		x, y, z := near(s), near(s), near(s)
		xy, yz, xz := decimal.Cmp(x, y), decimal.Cmp(y, z), decimal.Cmp(x, z)
		if decimal.Cmp(y, x) != -xy || (xy == 0) != (x == y) || decimal.Cmp(x, x) != 0 {
			t.Fatalf("Cmp of %v and %v is %d", x, y, xy)
		}
		if xy <= 0 && yz <= 0 && xz != min(xy, yz) || xy >= 0 && yz >= 0 && xz != max(xy, yz) {
			t.Fatalf("Cmp of %v, %v, %v is %d, %d, %d", x, y, z, xy, yz, xz)
		}
	}
}

func TestAddKeepsOrder(t *testing.T) {
	s := &samples{state: 57}
	compared := 0
	for range tries {
		a, b, by := near(s), near(s), near(s)
		x, xFits := decimal.Add(a, by)
		y, yFits := decimal.Add(b, by)
		if !xFits || !yFits {
			continue
		}
		compared++
		if decimal.Cmp(x, y) != decimal.Cmp(a, b) {
			t.Fatalf("Add of %v changes the order of %v and %v", by, a, b)
		}
		if decimal.Cmp(x, a) != decimal.Cmp(by, api.Dec{}) {
			t.Fatalf("%v more %v is %v", a, by, x)
		}
	}
	enough(t, compared)
}

func TestRoundingTwiceIsRoundingOnce(t *testing.T) {
	s := &samples{state: 58}
	for range tries {
		a, scale := s.right(), s.below(7)
		once, ok := decimal.Round(a, scale)
		twice, again := decimal.Round(once, scale)
		if once != twice || !ok || !again || once.Scale > scale {
			t.Fatalf("Round(%v, %d) = %v, and then %v", a, scale, once, twice)
		}
	}
}

func TestRoundingKeepsOrder(t *testing.T) {
	s := &samples{state: 59}
	for range tries {
		a, scale := s.right(), s.below(7)
		for _, b := range []api.Dec{s.right(), near(s), {N: a.N + s.below(11) - 5, Scale: a.Scale}} {
			x, _ := decimal.Round(a, scale)
			y, _ := decimal.Round(b, scale)
			if decimal.Right(b) && decimal.Cmp(x, y) == -decimal.Cmp(a, b) && x != y {
				t.Fatalf("rounding %v and %v to %d places gives %v and %v", a, b, scale, x, y)
			}
		}
	}
}

func TestAllCallsAgreeAboutForms(t *testing.T) {
	s := &samples{state: 60}
	for range tries {
		a := s.any()
		b, ok := decimal.Make(a.N, a.Scale)
		if decimal.Right(a) && (b != a || !ok) {
			t.Fatalf("Make(%d, %d) = %v, %t", a.N, a.Scale, b, ok)
		}
		if ok && !decimal.Right(b) {
			t.Fatalf("Make(%d, %d) = %v, which is not right", a.N, a.Scale, b)
		}
		c, ok := decimal.Parse(decimal.Text(a))
		if !ok || decimal.Cmp(c, a) != 0 || decimal.Right(a) && c != a {
			t.Fatalf("Parse(Text(%v)) = %v, %t", a, c, ok)
		}
	}
}
