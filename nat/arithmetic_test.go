package nat_test

import (
	"math/big"
	"testing"

	"concord/api"
	"concord/nat"
)

// P1.2: Cmp.

func TestCmpComparesValues(t *testing.T) {
	for n, c := range []struct {
		a, b api.Nat
		want int
	}{
		{"", "", 0}, {"\x00", "", 0}, {"", "\x00\x00", 0}, {"\x00", "\x00\x00\x00", 0}, {"\x05", "\x00\x05", 0},
		{"", "\x01", -1}, {"\x00\x00", "\x01", -1}, {"\x01", "\x02", -1}, {"\x7f", "\x80", -1}, {"\xff", "\x01\x00", -1},
		{"\x00\xff", "\x01\x00", -1}, {"\x00\x00\x00\x05", "\x06", -1}, {"\x01\x02", "\x01\x03", -1}, {"\x01\xff", "\x02\x00", -1},
		{"\xff\xff\xff\xff\xff\xff\xff\xff", "\x01\x00\x00\x00\x00\x00\x00\x00\x00", -1},
		{"\x01\xff\xff\xff\xff\xff\xff\xff\xff", "\x02\x00\x00\x00\x00\x00\x00\x00\x00", -1},
		{"\x00\x7f\xff\xff\xff\xff\xff\xff\xff", "\x80\x00\x00\x00\x00\x00\x00\x00", -1},
	} {
		if got := nat.Cmp(c.a, c.b); got != c.want {
			t.Errorf("case %d: Cmp = %d", n, got)
		}
		if got := nat.Cmp(c.b, c.a); got != -c.want {
			t.Errorf("case %d, exchanged: Cmp = %d", n, got)
		}
	}
}

func TestCmpOfSamples(t *testing.T) {
	s := &samples{state: 2}
	for range 5000 {
		a, b := s.any(), s.any()
		if got := nat.Cmp(a, b); got != toBig(a).Cmp(toBig(b)) {
			t.Fatalf("Cmp(%x, %x) = %d", string(a), string(b), got)
		}
		if nat.Cmp(a, zeros(s.below(20))+a) != 0 {
			t.Fatalf("Cmp(%x) with itself", string(a))
		}
	}
}

// P1.2: Add, Sub, Mul.

// checkArithmetic compares the sum, both differences and the product of two numbers with those of math/big.
func checkArithmetic(t *testing.T, a, b api.Nat) {
	t.Helper()
	x, y := toBig(a), toBig(b)
	check(t, "Add", nat.Add(a, b), new(big.Int).Add(x, y), a, b)
	check(t, "Mul", nat.Mul(a, b), new(big.Int).Mul(x, y), a, b)
	checkSub(t, a, b)
	checkSub(t, b, a)
}

// checkSub checks a difference.
func checkSub(t *testing.T, a, b api.Nat) {
	t.Helper()
	want := new(big.Int).Sub(toBig(a), toBig(b))
	got, ok := nat.Sub(a, b)
	if ok != (want.Sign() >= 0) {
		t.Fatalf("Sub(%x, %x) is %t", string(a), string(b), ok)
	}
	if !ok {
		want.SetInt64(0)
	}
	check(t, "Sub", got, want, a, b)
}

func TestArithmeticOfSmallNumbers(t *testing.T) {
	for a := range 20 {
		for b := range 20 {
			x, y := small(int64(a)), small(int64(b))
			if nat.Add(x, y) != small(int64(a+b)) || nat.Mul(x, y) != small(int64(a*b)) {
				t.Errorf("Add or Mul of %d and %d", a, b)
			}
			if d, ok := nat.Sub(x, y); ok != (a >= b) || d != small(int64(max(0, a-b))) {
				t.Errorf("Sub(%d, %d) = %x, %t", a, b, string(d), ok)
			}
		}
	}
}

func TestExamplesOfSub(t *testing.T) {
	if d, ok := nat.Sub("\x03", "\x05"); d != "" || ok {
		t.Errorf("Sub(3, 5) = %x, %t", string(d), ok)
	}
	if d, ok := nat.Sub("\x05", "\x03"); d != "\x02" || !ok {
		t.Errorf("Sub(5, 3) = %x, %t", string(d), ok)
	}
	if d, ok := nat.Sub("\x00\x05", "\x00\x00\x05"); d != "" || !ok {
		t.Errorf("Sub(5, 5) = %x, %t", string(d), ok)
	}
}

func TestArithmeticAtPowersOfTwo(t *testing.T) {
	for _, n := range []uint{7, 8, 15, 16, 31, 32, 33, 56, 63, 64, 65, 72, 95, 96, 127, 128, 129, 192, 256, 320} {
		for _, m := range []uint{8, 32, 64, 128, 192, 256} {
			for _, plus := range []int64{-1, 0, 1} {
				checkArithmetic(t, power2(n, plus), power2(m, -1))
				checkArithmetic(t, power2(n, plus), power2(m, 1))
				checkArithmetic(t, power2(n, plus), small(plus+1))
			}
		}
	}
}

func TestArithmeticOfSamples(t *testing.T) {
	s := &samples{state: 3}
	for range 8000 {
		checkArithmetic(t, s.any(), s.any())
	}
	for range 300 {
		checkArithmetic(t, s.words(s.below(40), 8), s.words(s.below(40), 8))
	}
}

func TestArithmeticOfNumbersThatAreNotRight(t *testing.T) {
	s := &samples{state: 4}
	for range 500 {
		a := s.any()
		for _, front := range []api.Nat{"\x00", zeros(7), zeros(8), zeros(33)} {
			checkArithmetic(t, front+a, a)
			checkArithmetic(t, front, a)
			checkArithmetic(t, front+a, front+s.any())
		}
	}
	checkArithmetic(t, "\x00", "\x00\x00")
	checkArithmetic(t, zeros(64), "")
}

func TestArithmeticOfLargeNumbers(t *testing.T) {
	s := &samples{state: 5}
	large := s.bytes(20000)
	checkArithmetic(t, large, s.bytes(19993))
	checkArithmetic(t, large, large)
	checkArithmetic(t, large, "\x07")
	checkArithmetic(t, power2(100000, -1), "\x01")
	checkArithmetic(t, power2(100000, 0), "\x01")
}
