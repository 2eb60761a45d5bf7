package nat_test

import (
	"math/big"
	"testing"

	"concord/api"
	"concord/nat"
)

// P1.4: Bits.

func TestBitsCountsBinaryDigits(t *testing.T) {
	for a, want := range map[api.Nat]int{
		"": 0, "\x00": 0, "\x00\x00\x00": 0, "\x01": 1, "\x00\x01": 1, "\x02": 2, "\x03": 2, "\x04": 3, "\x7f": 7, "\x80": 8, "\xff": 8,
		"\x01\x00": 9, "\x00\x00\x01\x00": 9, "\xff\xff": 16, "\x01\x00\x00\x00\x00": 33,
	} {
		if n := nat.Bits(a); n != want {
			t.Errorf("Bits(%x) = %d", string(a), n)
		}
	}
	for n := range uint(300) {
		if nat.Bits(power2(n, 0)) != int(n)+1 || nat.Bits(power2(n, -1)) != int(n) || nat.Bits(zeros(9)+power2(n, 0)) != int(n)+1 {
			t.Errorf("Bits of 2^%d", n)
		}
	}
	if n := nat.Bits(power2(1000000, 0)); n != 1000001 {
		t.Errorf("Bits of 2^1000000 = %d", n)
	}
}

func TestBitsOfSamples(t *testing.T) {
	s := &samples{state: 14}
	for range 3000 {
		if a := s.any(); nat.Bits(a) != toBig(a).BitLen() {
			t.Fatalf("Bits(%x) = %d", string(a), nat.Bits(a))
		}
	}
}

// P1.4: Pow.

// checkPow compares a power with that of math/big; m is not 0.
func checkPow(t *testing.T, a, e, m api.Nat) {
	t.Helper()
	check(t, "Pow", pow(t, a, e, m), new(big.Int).Exp(toBig(a), toBig(e), toBig(m)), a, e, m)
}

func TestExamplesOfPow(t *testing.T) {
	if x := pow(t, "\x03", nat.Of(200), nat.Of(1000)); x != "\x01" {
		t.Errorf("Pow(3, 200, 1000) = %x", string(x))
	}
	if x := pow(t, "\x05", "", "\x01"); x != "" {
		t.Errorf("Pow(5, 0, 1) = %x", string(x))
	}
	for a := range int64(12) {
		for e := range int64(12) {
			for m := range int64(12) {
				if m > 0 {
					checkPow(t, small(a), small(e), small(m))
				}
			}
		}
	}
}

func TestPowModuloZeroIsFalse(t *testing.T) {
	for _, m := range []api.Nat{"", "\x00", zeros(8), zeros(21)} {
		for _, a := range []api.Nat{"", "\x01", "\x07", power2(100, 0)} {
			for _, e := range []api.Nat{"", "\x00", "\x01", "\x03"} {
				if x, ok := nat.Pow(a, e, m); ok || x != "" {
					t.Errorf("Pow(%x, %x, 0) = %x, %t", string(a), string(e), string(x), ok)
				}
			}
		}
	}
}

func TestPowModuloOneIsZero(t *testing.T) {
	for _, m := range []api.Nat{"\x01", "\x00\x01", zeros(15) + "\x01"} {
		for _, a := range []api.Nat{"", "\x00", "\x01", "\x02", power2(64, 0), power2(100, 1)} {
			for _, e := range []api.Nat{"", "\x00", "\x01", "\x02", power2(70, 3)} {
				if x := pow(t, a, e, m); x != "" {
					t.Errorf("Pow(%x, %x, 1) = %x", string(a), string(e), string(x))
				}
			}
		}
	}
}

func TestPowWithTheExponentZeroIsOne(t *testing.T) {
	for _, m := range []api.Nat{"\x02", "\x03", "\x08", "\xff", power2(64, 0), power2(64, -1), power2(128, 1), power2(128, 2)} {
		for _, a := range []api.Nat{"", "\x00", "\x01", "\x02", m, power2(100, 1)} {
			for _, e := range []api.Nat{"", "\x00", zeros(9)} {
				if x := pow(t, a, e, m); x != "\x01" {
					t.Errorf("Pow(%x, 0, %x) = %x", string(a), string(m), string(x))
				}
			}
		}
	}
}

// TestPowAtPowersOfTwo has even and odd moduli next to the ends of words.
func TestPowAtPowersOfTwo(t *testing.T) {
	s := &samples{state: 15}
	for _, n := range []uint{8, 16, 31, 32, 33, 63, 64, 65, 96, 127, 128, 129, 192, 256} {
		for plus := int64(-3); plus <= 3; plus++ {
			m := power2(n, plus)
			checkPow(t, "\x02", small(int64(n)), m)
			checkPow(t, "\x03", s.bytes(4), m)
			checkPow(t, power2(n, plus-1), s.bytes(3), m)
			checkPow(t, m, "\x05", m)
			checkPow(t, s.bytes(80), s.bytes(9), m)
		}
	}
}

func TestPowOfSamples(t *testing.T) {
	s := &samples{state: 16}
	for range 3000 {
		a, e, m := s.any(), s.bytes(s.below(6)), s.right()
		checkPow(t, a, e, m)
		checkPow(t, zeros(s.below(9))+a, zeros(s.below(3))+e, zeros(s.below(9))+m)
	}
}

// TestPowOfExtremeWords has odd moduli whose Montgomery products are greatest, and those whose words are mostly 0.
func TestPowOfExtremeWords(t *testing.T) {
	s := &samples{state: 17}
	for _, bytes := range []int{1, 2, 4, 8} {
		for range 500 {
			m := s.words(1+s.below(4), bytes) + "\x01"
			checkPow(t, s.words(1+s.below(5), bytes), s.bytes(2), m)
			less := toNat(new(big.Int).Sub(toBig(m), big.NewInt(1)))
			if less != "" {
				checkPow(t, less, s.bytes(1), m)
				checkPow(t, less, s.bytes(1), less)
			}
		}
	}
}

func TestPowWithLargeArguments(t *testing.T) {
	s := &samples{state: 18}
	odd, even := "\x81"+s.bytes(254)+"\x01", "\x81"+s.bytes(254)+"\x02"
	checkPow(t, s.bytes(256), s.bytes(32), odd)
	checkPow(t, s.bytes(256), s.bytes(32), even)
	checkPow(t, s.bytes(3000), "\x03", odd)
	checkPow(t, "\x02", s.bytes(2000), power2(61, -1))
	checkPow(t, "\x03", s.bytes(2000), power2(64, 0))
}
