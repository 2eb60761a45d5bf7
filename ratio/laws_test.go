package ratio_test

import (
	"testing"

	"concord/api"
	"concord/nat"
	"concord/ratio"
)

// P2.7: the consequences, without another implementation beside the package.

// forTriples calls law with triples of samples, some of which are not right.
func forTriples(state uint64, law func(a, b, c api.Rat)) {
	s := &samples{state: state}
	for range 800 {
		law(s.any(), s.any(), s.any())
	}
}

// same reports two results that differ.
func same(t *testing.T, law string, x, y api.Rat, args ...api.Rat) {
	t.Helper()
	if x != y || !ratio.Right(x) {
		t.Fatalf("%s: %#v is not %#v for %#v", law, x, y, args)
	}
}

func TestSumsAndProductsCommuteAndAssociate(t *testing.T) {
	forTriples(20, func(a, b, c api.Rat) {
		same(t, "sums commute", ratio.Add(a, b), ratio.Add(b, a), a, b)
		same(t, "products commute", ratio.Mul(a, b), ratio.Mul(b, a), a, b)
		same(t, "sums associate", ratio.Add(ratio.Add(a, b), c), ratio.Add(a, ratio.Add(b, c)), a, b, c)
		same(t, "products associate", ratio.Mul(ratio.Mul(a, b), c), ratio.Mul(a, ratio.Mul(b, c)), a, b, c)
	})
}

func TestProductsDistributeOverSums(t *testing.T) {
	forTriples(21, func(a, b, c api.Rat) {
		same(t, "distribution", ratio.Mul(a, ratio.Add(b, c)), ratio.Add(ratio.Mul(a, b), ratio.Mul(a, c)), a, b, c)
	})
}

func TestNeutralAndInverseElements(t *testing.T) {
	zero, one := ratio.Of(0), ratio.Of(1)
	forTriples(22, func(a, b, _ api.Rat) {
		plain := ratio.Add(a, zero)
		same(t, "1 is neutral", ratio.Mul(a, one), plain, a)
		same(t, "0 times a", ratio.Mul(a, zero), zero, a)
		same(t, "a and -a", ratio.Add(a, ratio.Neg(a)), zero, a)
		same(t, "-(-a)", ratio.Neg(ratio.Neg(a)), plain, a)
		same(t, "Sub undoes Add", ratio.Sub(ratio.Add(a, b), b), plain, a, b)
		if quotient, ok := ratio.Quo(a, b); ok {
			same(t, "Mul undoes Quo", ratio.Mul(quotient, b), plain, a, b)
		}
		if inverse, ok := ratio.Quo(one, a); ok {
			same(t, "a and 1/a", ratio.Mul(a, inverse), one, a)
		} else {
			same(t, "no inverse", plain, zero, a)
		}
	})
}

func TestOrderIsTotal(t *testing.T) {
	forTriples(23, func(a, b, c api.Rat) {
		if ratio.Cmp(a, b) != -ratio.Cmp(b, a) || ratio.Cmp(a, a) != 0 {
			t.Fatalf("Cmp of %#v and %#v", a, b)
		}
		if ratio.Cmp(a, b) <= 0 && ratio.Cmp(b, c) <= 0 && ratio.Cmp(a, c) > 0 {
			t.Fatalf("Cmp of %#v, %#v and %#v", a, b, c)
		}
		if ratio.Cmp(a, b) != ratio.Sign(ratio.Sub(a, b)) {
			t.Fatalf("Cmp(%#v, %#v) is not the Sign of the difference", a, b)
		}
	})
}

func TestOrderFitsTheField(t *testing.T) {
	forTriples(24, func(a, b, c api.Rat) {
		order := ratio.Cmp(a, b)
		if ratio.Cmp(ratio.Add(a, c), ratio.Add(b, c)) != order {
			t.Fatalf("the order of %#v and %#v changes with %#v", a, b, c)
		}
		if ratio.Cmp(ratio.Mul(a, c), ratio.Mul(b, c)) != order*ratio.Sign(c) {
			t.Fatalf("the order of %#v and %#v, times %#v", a, b, c)
		}
		if ratio.Sign(ratio.Mul(a, b)) != ratio.Sign(a)*ratio.Sign(b) {
			t.Fatalf("the Sign of the product of %#v and %#v", a, b)
		}
	})
}

func TestParseUndoesText(t *testing.T) {
	s := &samples{state: 25}
	for range 2000 {
		a := s.right()
		if got, ok := ratio.Parse(ratio.Text(a)); got != a || !ok {
			t.Fatalf("Parse of Text(%#v) = %#v, %t", a, got, ok)
		}
	}
}

func TestNumbersOfCommonMakeTheSum(t *testing.T) {
	s := &samples{state: 26}
	returned := 0
	for range 1500 {
		l := s.list(s.below(6), s.any)
		for i := range l {
			l[i].Neg = l[i].Neg && s.below(8) == 0
		}
		d, numbers, ok := ratio.Common(l)
		if !ok {
			continue
		}
		returned++
		var total api.Nat
		for _, n := range numbers {
			total = nat.Add(total, n)
		}
		quotient, ok := ratio.Make(false, total, d)
		if !ok {
			t.Fatalf("Make of %#v and %#v is false", total, d)
		}
		same(t, "the sum", quotient, ratio.Sum(l), l...)
	}
	if returned < 300 {
		t.Errorf("Common was true for %d lists only", returned)
	}
}
