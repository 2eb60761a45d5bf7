package ratio_test

import (
	"math/big"
	"testing"

	"concord/api"
	"concord/ratio"
)

// P2.5: Common.

// common returns the results of Common, which must be true.
func common(t *testing.T, l []api.Rat) (api.Nat, []api.Nat) {
	t.Helper()
	d, numbers, ok := ratio.Common(l)
	if !ok {
		t.Fatalf("Common of %#v is false", l)
	}
	return d, numbers
}

// checkCommon compares the results for right numbers that are not negative with those of math/big.
func checkCommon(t *testing.T, l []api.Rat) {
	t.Helper()
	want := big.NewInt(1)
	for _, a := range l {
		den := toInt(a.Den)
		divisor := new(big.Int).GCD(nil, nil, want, den)
		want.Mul(want, den.Quo(den, divisor))
	}
	d, numbers := common(t, l)
	if d != toNat(want) || len(numbers) != len(l) {
		t.Fatalf("Common of %#v is %#v, with %d numbers", l, d, len(numbers))
	}
	for i, a := range l {
		multiple := new(big.Rat).Mul(toBig(a), new(big.Rat).SetInt(want))
		if !multiple.IsInt() || numbers[i] != toNat(multiple.Num()) {
			t.Fatalf("number %d of Common of %#v is %#v", i, l, numbers[i])
		}
	}
}

// checkNotCommon reports a list of which Common returns anything but zero values.
func checkNotCommon(t *testing.T, l []api.Rat) {
	t.Helper()
	if d, numbers, ok := ratio.Common(l); d != "" || len(numbers) != 0 || ok {
		t.Errorf("Common of %#v = %#v, %#v, %t", l, d, numbers, ok)
	}
}

func TestCommonOfNothing(t *testing.T) {
	for _, l := range [][]api.Rat{nil, {}} {
		if d, numbers, ok := ratio.Common(l); d != "\x01" || len(numbers) != 0 || !ok {
			t.Errorf("Common of nothing = %#v, %#v, %t", d, numbers, ok)
		}
	}
}

func TestExampleOfCommon(t *testing.T) {
	d, numbers := common(t, []api.Rat{of(1, 2), of(1, 3), of(0, 1)})
	if d != "\x06" || len(numbers) != 3 || numbers[0] != "\x03" || numbers[1] != "\x02" || numbers[2] != "" {
		t.Errorf("Common of 1/2, 1/3, 0 = %#v, %#v", d, numbers)
	}
}

func TestCommonOfWholeNumbers(t *testing.T) {
	for _, l := range [][]api.Rat{{of(0, 1)}, {of(0, 1), of(0, 1)}, {of(4, 1), of(6, 1)}, {of(300, 1), of(0, 1), of(300, 1)}} {
		if d, _ := common(t, l); d != "\x01" {
			t.Errorf("Common of %#v = %#v", l, d)
		}
		checkCommon(t, l)
	}
}

// TestLeastCommon tries all smaller multiples.
func TestLeastCommon(t *testing.T) {
	for _, l := range [][]api.Rat{{of(1, 2)}, {of(3, 4), of(5, 6)}, {of(1, 4), of(1, 2), of(1, 8)}, {of(1, 6), of(1, 10), of(1, 15)}, {of(2, 3), of(2, 3)}, {of(7, 12), of(0, 1), of(11, 18)}} {
		least := int64(1)
		for ; ; least++ {
			all := true
			for _, a := range l {
				all = all && new(big.Rat).Mul(toBig(a), big.NewRat(least, 1)).IsInt()
			}
			if all {
				break
			}
		}
		if d, _ := common(t, l); d != toNat(big.NewInt(least)) {
			t.Errorf("Common of %#v = %#v, not %d", l, d, least)
		}
	}
}

func TestCommonOfSamples(t *testing.T) {
	s := &samples{state: 14}
	notNegative := func() api.Rat {
		a := s.right()
		a.Neg = false
		return a
	}
	for range 1500 {
		checkCommon(t, s.list(s.below(8), notNegative))
	}
	checkCommon(t, s.list(60, notNegative))
}

// TestCommonOfOtherNumbers puts a number that is not right, or negative, at each place of a list.
func TestCommonOfOtherNumbers(t *testing.T) {
	l := []api.Rat{of(1, 2), of(0, 1), of(5, 3), of(7, 1)}
	checkCommon(t, l)
	for _, other := range append(wrongNumbers(), of(-1, 1), of(-1, 2), of(-300, 7)) {
		checkNotCommon(t, []api.Rat{other})
		for place := range l {
			with := append([]api.Rat{}, l...)
			with[place] = other
			checkNotCommon(t, with)
		}
	}
	checkNotCommon(t, []api.Rat{of(-1, 2), of(1, 2)})
	checkNotCommon(t, []api.Rat{{}, of(-1, 2)})
}
