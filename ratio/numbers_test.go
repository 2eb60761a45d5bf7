package ratio_test

import (
	"math"
	"math/big"
	"testing"

	"concord/api"
	"concord/ratio"
)

// P2.2: Of, Make, Right.

func TestOf(t *testing.T) {
	edges := []int{0, 1, 9, 10, 255, 256, 257, 65535, 65536, 1<<31 - 1, 1 << 31, 1 << 32, 1<<53 + 1, math.MaxInt, math.MaxInt - 1, math.MinInt, math.MinInt + 1, math.MinInt + 2}
	for _, n := range edges {
		check(t, "Of", ratio.Of(n), new(big.Rat).SetInt64(int64(n)))
		check(t, "Of", ratio.Of(-n), new(big.Rat).SetInt64(int64(-n)))
	}
	for n := -1000; n <= 1000; n++ {
		check(t, "Of", ratio.Of(n), new(big.Rat).SetInt64(int64(n)))
	}
}

func TestOfIsWrittenOut(t *testing.T) {
	for n, want := range map[int]api.Rat{
		0: {Den: "\x01"}, 1: {Num: "\x01", Den: "\x01"}, -1: {Neg: true, Num: "\x01", Den: "\x01"}, 256: {Num: "\x01\x00", Den: "\x01"},
		math.MinInt64: {Neg: true, Num: "\x80\x00\x00\x00\x00\x00\x00\x00", Den: "\x01"},
	} {
		if got := ratio.Of(n); got != want {
			t.Errorf("Of(%d) = %#v", n, got)
		}
	}
}

func TestMakeOfSmallNumbers(t *testing.T) {
	for num := range int64(40) {
		for den := int64(1); den < 40; den++ {
			above, below := toNat(big.NewInt(num)), toNat(big.NewInt(den))
			for _, neg := range []bool{false, true} {
				want := big.NewRat(num, den)
				if neg {
					want.Neg(want)
				}
				a, ok := ratio.Make(neg, above, below)
				if !ok {
					t.Fatalf("Make(%t, %d, %d) is false", neg, num, den)
				}
				check(t, "Make", a, want, api.Rat{Neg: neg, Num: above, Den: below})
			}
		}
	}
}

func TestMakeOfSamples(t *testing.T) {
	s := &samples{state: 1}
	for range 3000 {
		num, den := s.natural(), s.natural()
		a, ok := ratio.Make(false, toNat(num), toNat(den))
		b, okNeg := ratio.Make(true, toNat(num), toNat(den))
		if !ok || !okNeg {
			t.Fatalf("Make of %s and %s is false", num, den)
		}
		want := new(big.Rat).SetFrac(num, den)
		check(t, "Make", a, want)
		check(t, "Make with neg", b, want.Neg(want))
	}
}

func TestMakeOfZero(t *testing.T) {
	for _, den := range []api.Nat{"\x01", "\x02", "\x01\x00", "\xff\xff\xff\xff\xff\xff\xff\xff\xff"} {
		for _, neg := range []bool{false, true} {
			if a, ok := ratio.Make(neg, "", den); !ok || a != (api.Rat{Den: "\x01"}) {
				t.Errorf("Make(%t, 0, %#v) = %#v, %t", neg, den, a, ok)
			}
		}
	}
}

func TestMakeOfNumbersThatAreNotRight(t *testing.T) {
	for _, c := range [][2]api.Nat{
		{"", ""}, {"\x01", ""}, {"\x05\x00", ""}, // the divisor 0
		{"", "\x00"}, {"\x01", "\x00"}, {"\x01", "\x00\x00\x00"}, {"\x01", "\x00\x01"}, {"\x01", "\x00\x00\x04"},
		{"\x00", "\x01"}, {"\x00\x00", "\x01"}, {"\x00\x01", "\x01"}, {"\x00\x06", "\x04"}, {"\x00\x01\x00", "\x02"},
		{"\x00", "\x00"}, {"\x00\x01", "\x00\x01"}, {"\x00", ""}, {"\x00\x01", ""},
	} {
		for _, neg := range []bool{false, true} {
			a, ok := ratio.Make(neg, c[0], c[1])
			checkNone(t, "Make of wrong numbers", a, ok)
		}
	}
}

func TestRight(t *testing.T) {
	for _, a := range wrongNumbers() {
		if ratio.Right(a) {
			t.Errorf("Right(%#v)", a)
		}
	}
	for _, a := range []api.Rat{
		{Den: "\x01"}, {Num: "\x01", Den: "\x01"}, {Neg: true, Num: "\x01", Den: "\x01"}, {Num: "\x03", Den: "\x02"}, {Neg: true, Num: "\x02", Den: "\x03"},
		{Num: "\x01\x00", Den: "\x03"}, {Num: "\x01", Den: "\x01\x00"}, {Neg: true, Num: "\xff", Den: "\x01\x00"},
	} {
		if !ratio.Right(a) {
			t.Errorf("not Right(%#v)", a)
		}
	}
}

func TestRightOfSamples(t *testing.T) {
	s := &samples{state: 2}
	for range 3000 {
		a := s.right()
		if !ratio.Right(a) {
			t.Fatalf("not Right(%#v)", a)
		}
		for _, b := range spoiled(a) {
			if ratio.Right(b) {
				t.Fatalf("Right(%#v)", b)
			}
		}
		b := api.Rat{Neg: s.below(2) == 0, Num: toNat(s.smooth()), Den: toNat(s.smooth())}
		if ratio.Right(b) != isRight(b) {
			t.Fatalf("Right(%#v) is %t", b, !isRight(b))
		}
	}
}

// P2.3: Sign, Cmp, Neg.

func TestSignAndNegOfSmallNumbers(t *testing.T) {
	for n := int64(-30); n <= 30; n++ {
		for d := int64(1); d < 12; d++ {
			a := of(n, d)
			if got, want := ratio.Sign(a), big.NewInt(n).Sign(); got != want {
				t.Errorf("Sign(%d/%d) = %d", n, d, got)
			}
			check(t, "Neg", ratio.Neg(a), big.NewRat(-n, d), a)
		}
	}
}

func TestSignAndNegOfSamples(t *testing.T) {
	s := &samples{state: 3}
	for range 3000 {
		a := s.any()
		value := toBig(a)
		if got := ratio.Sign(a); got != value.Sign() {
			t.Fatalf("Sign(%#v) = %d", a, got)
		}
		check(t, "Neg", ratio.Neg(a), value.Neg(value), a)
	}
}

func TestSignAndNegOfNumbersThatAreNotRight(t *testing.T) {
	for _, a := range wrongNumbers() {
		if got := ratio.Sign(a); got != 0 {
			t.Errorf("Sign(%#v) = %d", a, got)
		}
		check(t, "Neg", ratio.Neg(a), new(big.Rat), a)
	}
}

// checkOrder compares two numbers, in both orders.
func checkOrder(t *testing.T, a, b api.Rat) {
	t.Helper()
	want := toBig(a).Cmp(toBig(b))
	if got := ratio.Cmp(a, b); got != want {
		t.Fatalf("Cmp(%#v, %#v) = %d", a, b, got)
	}
	if got := ratio.Cmp(b, a); got != -want {
		t.Fatalf("Cmp(%#v, %#v) = %d", b, a, got)
	}
}

func TestCmpOfSmallNumbers(t *testing.T) {
	for n := int64(-8); n <= 8; n++ {
		for d := int64(1); d < 7; d++ {
			for m := int64(-8); m <= 8; m++ {
				for e := int64(1); e < 7; e++ {
					checkOrder(t, of(n, d), of(m, e))
				}
			}
		}
	}
}

func TestCmpOfSamples(t *testing.T) {
	s := &samples{state: 4}
	for range 5000 {
		a, b := s.any(), s.any()
		checkOrder(t, a, b)
		checkOrder(t, a, a)
		checkOrder(t, a, ratio.Neg(a))
	}
}

// TestCmpOfNeighbours has large numbers whose difference is as small as their denominators permit.
func TestCmpOfNeighbours(t *testing.T) {
	s := &samples{state: 5}
	for range 500 {
		n := s.natural()
		one := big.NewInt(1)
		next := new(big.Int).Add(n, one)
		after := new(big.Int).Add(next, one)
		a, b := toRat(new(big.Rat).SetFrac(n, next)), toRat(new(big.Rat).SetFrac(next, after))
		checkOrder(t, a, b)
		checkOrder(t, ratio.Neg(a), ratio.Neg(b))
		checkOrder(t, ratio.Neg(a), b)
	}
}

func TestCmpOfNumbersThatAreNotRight(t *testing.T) {
	for _, a := range wrongNumbers() {
		for _, b := range wrongNumbers() {
			if got := ratio.Cmp(a, b); got != 0 {
				t.Errorf("Cmp(%#v, %#v) = %d", a, b, got)
			}
		}
		for _, b := range []api.Rat{of(0, 1), of(1, 7), of(-1, 7), of(5, 1), of(-5, 1)} {
			checkOrder(t, a, b)
		}
	}
}
