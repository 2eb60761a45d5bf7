package nat_test

import (
	"testing"

	"concord/api"
	"concord/nat"
)

// P1.6: the consequences, without another implementation beside the package.

// forTriples calls law with triples of samples, some of which are not right.
func forTriples(state uint64, law func(a, b, c api.Nat)) {
	s := &samples{state: state}
	for range 1500 {
		law(s.any(), s.any(), s.any())
	}
}

func TestSumsAndProductsCommute(t *testing.T) {
	forTriples(21, func(a, b, _ api.Nat) {
		if nat.Add(a, b) != nat.Add(b, a) || nat.Mul(a, b) != nat.Mul(b, a) {
			t.Fatalf("%x and %x do not commute", string(a), string(b))
		}
	})
}

func TestSumsAndProductsAssociate(t *testing.T) {
	forTriples(22, func(a, b, c api.Nat) {
		if nat.Add(nat.Add(a, b), c) != nat.Add(a, nat.Add(b, c)) || nat.Mul(nat.Mul(a, b), c) != nat.Mul(a, nat.Mul(b, c)) {
			t.Fatalf("%x, %x and %x do not associate", string(a), string(b), string(c))
		}
	})
}

func TestProductsDistributeOverSums(t *testing.T) {
	forTriples(23, func(a, b, c api.Nat) {
		if nat.Mul(a, nat.Add(b, c)) != nat.Add(nat.Mul(a, b), nat.Mul(a, c)) {
			t.Fatalf("%x does not distribute over %x and %x", string(a), string(b), string(c))
		}
	})
}

func TestSubUndoesAdd(t *testing.T) {
	forTriples(24, func(a, b, _ api.Nat) {
		if c, ok := nat.Sub(nat.Add(a, b), b); !ok || nat.Cmp(c, a) != 0 || !nat.Right(c) {
			t.Fatalf("%x plus and minus %x is %x, %t", string(a), string(b), string(c), ok)
		}
	})
}

func TestQuotientsAndRestsMakeTheNumber(t *testing.T) {
	forTriples(25, func(a, b, _ api.Nat) {
		if nat.Cmp(b, "") == 0 {
			return
		}
		q, r := quo(t, a, b)
		if nat.Cmp(nat.Add(nat.Mul(b, q), r), a) != 0 || nat.Cmp(r, b) >= 0 {
			t.Fatalf("Quo(%x, %x) = %x, %x", string(a), string(b), string(q), string(r))
		}
	})
}

func TestBitsOfProducts(t *testing.T) {
	forTriples(26, func(a, b, _ api.Nat) {
		if nat.Cmp(a, "") == 0 || nat.Cmp(b, "") == 0 {
			return
		}
		less := nat.Bits(a) + nat.Bits(b) - nat.Bits(nat.Mul(a, b))
		if less != 0 && less != 1 {
			t.Fatalf("Bits of the product of %x and %x are %d less", string(a), string(b), less)
		}
	})
}

func TestPowersWithExponentsThatAreAdded(t *testing.T) {
	s := &samples{state: 27}
	for range 500 {
		a, m, e, f := s.any(), s.right(), s.bytes(s.below(4)), s.bytes(s.below(4))
		_, want := quo(t, nat.Mul(pow(t, a, e, m), pow(t, a, f, m)), m)
		if got := pow(t, a, nat.Add(e, f), m); got != want {
			t.Fatalf("Pow(%x, %x + %x, %x) = %x, not %x", string(a), string(e), string(f), string(m), string(got), string(want))
		}
	}
}
