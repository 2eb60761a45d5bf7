package decimal_test

import (
	"testing"

	"concord/api"
	"concord/decimal"
)

// P4.1: Right, Of, Make. P4.2: Cmp.

func TestRight(t *testing.T) {
	for _, a := range []api.Dec{
		{}, {N: 1}, {N: -1}, {N: 10}, {N: -10}, {N: 1000}, {N: 15, Scale: 1}, {N: -5, Scale: 2}, {N: 1, Scale: 6}, {N: -1, Scale: 6}, {N: 101, Scale: 1},
		{N: 1000000000000000}, {N: -1000000000000000}, {N: 999999999999999, Scale: 6}, {N: -999999999999999, Scale: 1},
	} {
		if !decimal.Right(a) {
			t.Errorf("Right(%v) is false", a)
		}
	}
	for _, a := range []api.Dec{
		{Scale: 1}, {Scale: 6}, {N: 10, Scale: 1}, {N: -10, Scale: 1}, {N: 1500, Scale: 3}, {N: 100, Scale: 6}, {N: 1, Scale: 7}, {N: 1, Scale: -1}, {Scale: 7}, {Scale: -1},
		{N: 1000000000000001}, {N: -1000000000000001}, {N: 1000000000000001, Scale: 6}, {N: -1000000000000001, Scale: 3}, {N: 1000000000000000, Scale: 1}, {N: -1000000000000000, Scale: 6},
	} {
		if decimal.Right(a) {
			t.Errorf("Right(%v) is true", a)
		}
	}
	for _, a := range wrongDecimals() {
		if decimal.Right(a) {
			t.Errorf("Right(%v) is true", a)
		}
	}
}

func TestRightOfAllForms(t *testing.T) {
	numbers := extremeInts()
	for n := -1000; n <= 1000; n++ {
		numbers = append(numbers, n)
	}
	for _, n := range numbers {
		for scale := -3; scale <= 10; scale++ {
			a := api.Dec{N: n, Scale: scale}
			if decimal.Right(a) != isRight(a) {
				t.Fatalf("Right(%v) is %t", a, decimal.Right(a))
			}
		}
	}
}

func TestOf(t *testing.T) {
	for n := -1000; n <= 1000; n++ {
		if a, ok := decimal.Of(n); a != (api.Dec{N: n}) || !ok {
			t.Errorf("Of(%d) = %v, %t", n, a, ok)
		}
	}
	for _, n := range extremeInts() {
		a, ok := decimal.Of(n)
		if fits := check(t, "Of", a, ok, quotient(n, 0), n); fits != (n >= -1000000000000000 && n <= 1000000000000000) {
			t.Errorf("Of(%d) is %t", n, fits)
		}
	}
}

func TestExamplesOfMake(t *testing.T) {
	for _, c := range []struct {
		n, scale int
		want     api.Dec
	}{
		{1500, 3, api.Dec{N: 15, Scale: 1}}, {-5, 1, api.Dec{N: -5, Scale: 1}}, {0, 0, api.Dec{}}, {0, 1, api.Dec{}}, {0, 6, api.Dec{}}, {0, 7, api.Dec{}}, {0, 18, api.Dec{}}, {7, 0, api.Dec{N: 7}}, {700, 2, api.Dec{N: 7}}, {70, 0, api.Dec{N: 70}},
		{1, 6, api.Dec{N: 1, Scale: 6}}, {10, 7, api.Dec{N: 1, Scale: 6}}, {-25000000000000, 18, api.Dec{N: -25, Scale: 6}}, {1000000000000000, 0, api.Dec{N: 1000000000000000}}, {1000000000000000, 6, api.Dec{N: 1000000000}},
		{10000000000000000, 1, api.Dec{N: 1000000000000000}}, {9999999999999990, 7, api.Dec{N: 999999999999999, Scale: 6}}, {1000000000000000000, 18, api.Dec{N: 1}}, {-1000000000000000000, 3, api.Dec{N: -1000000000000000}}, {9000000000000000000, 18, api.Dec{N: 9}},
	} {
		if a, ok := decimal.Make(c.n, c.scale); a != c.want || !ok {
			t.Errorf("Make(%d, %d) = %v, %t, not %v", c.n, c.scale, a, ok, c.want)
		}
	}
	for _, c := range [][2]int{{1, 7}, {-1, 7}, {5, 18}, {11, 7}, {100, 9}, {1000000000000001, 0}, {-1000000000000001, 0}, {10000000000000001, 1}, {10000000000000010, 1}, {9999999999999999, 1}, {9223372036854775807, 3}, {-9223372036854775808, 18}, {-9223372036854775808, 0}} {
		a, ok := decimal.Make(c[0], c[1])
		checkNone(t, "Make", a, ok, c[0], c[1])
	}
}

func TestMakeOfAllScales(t *testing.T) {
	numbers := extremeInts()
	s := &samples{state: 1}
	for range 3000 {
		numbers = append(numbers, s.units(), -s.units(), s.units()*1000, s.below(1<<62)-1<<61)
	}
	for _, n := range numbers {
		for scale := range 19 {
			a, ok := decimal.Make(n, scale)
			check(t, "Make", a, ok, quotient(n, scale), n, scale)
		}
	}
}

// TestMakeOfZeros has numbers with any number of zeros at their ends.
func TestMakeOfZeros(t *testing.T) {
	for _, n := range []int{1, -1, 2, 5, 9, 15, 99, 101, -123457} {
		for zeros, product := 0, n; zeros <= 12; zeros, product = zeros+1, product*10 {
			for scale := range 19 {
				a, ok := decimal.Make(product, scale)
				check(t, "Make", a, ok, quotient(product, scale), product, scale)
			}
		}
	}
}

func TestMakeOfOtherScales(t *testing.T) {
	for _, scale := range extremeScales() {
		if scale >= 0 && scale <= 18 {
			continue
		}
		for _, n := range append(extremeInts(), 0, 1, 10, -10, 1000000000000000000) {
			a, ok := decimal.Make(n, scale)
			checkNone(t, "Make", a, ok, n, scale)
		}
	}
}

// checkOrder compares two decimals, in both orders.
func checkOrder(t *testing.T, a, b api.Dec) {
	t.Helper()
	want := toBig(a).Cmp(toBig(b))
	if got := decimal.Cmp(a, b); got != want {
		t.Fatalf("Cmp(%v, %v) = %d", a, b, got)
	}
	if got := decimal.Cmp(b, a); got != -want {
		t.Fatalf("Cmp(%v, %v) = %d", b, a, got)
	}
}

func TestExamplesOfCmp(t *testing.T) {
	ascending := []string{"-1000000000000000", "-999999999999999", "-99999999999999.9", "-999999999.999999", "-10", "-1.5", "-1", "-0.5", "-0.05", "-0.000001", "0", "0.000001", "0.02", "0.1", "0.5", "1", "1.000001", "1.5", "9.9", "10", "999999999.999999", "1000000000", "99999999999999.9", "999999999999999", "1000000000000000"}
	for i, a := range ascending {
		for k, b := range ascending {
			want := 0
			switch {
			case i < k:
				want = -1
			case i > k:
				want = 1
			}
			if got := decimal.Cmp(of(t, a), of(t, b)); got != want {
				t.Errorf("Cmp(%s, %s) = %d", a, b, got)
			}
		}
	}
}

func TestCmpOfSmallDecimals(t *testing.T) {
	l := smallDecimals(25)
	for _, a := range l {
		for _, b := range l {
			checkOrder(t, a, b)
		}
	}
}

// TestCmpOfSamples also has decimals that are close to each other.
func TestCmpOfSamples(t *testing.T) {
	s := &samples{state: 2}
	for range 50000 {
		a, b := s.any(), s.any()
		checkOrder(t, a, b)
		checkOrder(t, a, a)
		checkOrder(t, a, api.Dec{N: a.N + s.below(5) - 2, Scale: a.Scale})
		checkOrder(t, a, api.Dec{N: a.N, Scale: b.Scale})
		checkOrder(t, a, api.Dec{N: a.N / tenTo(max(0, min(6, a.Scale))), Scale: 0})
	}
}

func TestCmpOfDecimalsThatAreNotRight(t *testing.T) {
	for _, a := range wrongDecimals() {
		for _, b := range wrongDecimals() {
			if got := decimal.Cmp(a, b); got != 0 {
				t.Fatalf("Cmp(%v, %v) = %d", a, b, got)
			}
		}
		for _, b := range []api.Dec{{}, {N: 1, Scale: 6}, {N: -1, Scale: 6}, {N: api.MaxUnits}, {N: -api.MaxUnits}} {
			checkOrder(t, a, b)
		}
	}
}
