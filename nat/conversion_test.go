package nat_test

import (
	"math"
	"math/big"
	"testing"

	"concord/api"
	"concord/nat"
)

// P1.1: Right.

func TestRightLooksAtTheFirstByte(t *testing.T) {
	for a, want := range map[api.Nat]bool{
		"": true, "\x00": false, "\x00\x00": false, "\x00\x01": false, "\x00\xff\xff": false,
		"\x01": true, "\xff": true, "\x80": true, "\x01\x00": true, "\x80\x00\x00": true, "0": true,
	} {
		if nat.Right(a) != want {
			t.Errorf("Right(%q) = %t", a, !want)
		}
	}
	for size := range 70 {
		a := zeros(size)
		if nat.Right(a) != (size == 0) || nat.Right("\x00\x07"+a) || !nat.Right("\x07"+a) {
			t.Errorf("Right of numbers with %d zeros", size)
		}
	}
}

// P1.1: Of.

func TestOfReturnsTheNumber(t *testing.T) {
	for n, want := range map[int]api.Nat{
		0: "", 1: "\x01", 9: "\x09", 255: "\xff", 256: "\x01\x00", 257: "\x01\x01", 65535: "\xff\xff", 65536: "\x01\x00\x00",
		1 << 31: "\x80\x00\x00\x00", 1<<32 - 1: "\xff\xff\xff\xff", 1 << 32: "\x01\x00\x00\x00\x00",
		math.MaxInt - 1: "\x7f\xff\xff\xff\xff\xff\xff\xfe", math.MaxInt: "\x7f\xff\xff\xff\xff\xff\xff\xff",
	} {
		if a := nat.Of(n); a != want {
			t.Errorf("Of(%d) = %x", n, string(a))
		}
	}
	for shift := range 63 {
		for _, n := range []int{1<<shift - 1, 1 << shift, 1<<shift + 1} {
			check(t, "Of", nat.Of(n), big.NewInt(int64(n)))
		}
	}
}

func TestOfReturnsZeroForNegativeNumbers(t *testing.T) {
	for _, n := range []int{-1, -2, -255, -256, -1 << 31, -1 << 32, math.MinInt + 1, math.MinInt} {
		if a := nat.Of(n); a != "" {
			t.Errorf("Of(%d) = %x", n, string(a))
		}
	}
}

// P1.1: Int.

func TestIntReturnsNumbersThatFit(t *testing.T) {
	for a, want := range map[api.Nat]int{
		"": 0, "\x00": 0, "\x00\x00\x00\x00\x00\x00\x00\x00\x00": 0, "\x01": 1, "\x00\x01": 1, "\x00\x01\x00": 256, "\xff": 255, "\x80": 128,
		"\x80\x00\x00\x00": 1 << 31, "\x01\x00\x00\x00\x00": 1 << 32, "\x01\x02\x03\x04\x05\x06\x07\x08": 0x0102030405060708,
		"\x7f\xff\xff\xff\xff\xff\xff\xfe": math.MaxInt - 1, "\x7f\xff\xff\xff\xff\xff\xff\xff": math.MaxInt,
	} {
		for _, front := range []api.Nat{"", "\x00", zeros(8), zeros(100)} {
			if n, ok := nat.Int(front + a); n != want || !ok {
				t.Errorf("Int(%x) = %d, %t", string(front+a), n, ok)
			}
		}
	}
}

func TestIntIsFalseForNumbersThatDoNotFit(t *testing.T) {
	for _, a := range []api.Nat{
		power2(63, 0), power2(63, 1), power2(64, -1), power2(64, 0), power2(64, 5), power2(65, 0), power2(71, 3), power2(72, 0),
		power2(127, -1), power2(128, 0), power2(128, 1), power2(1000, 7), "\x01" + zeros(40), "\x80" + zeros(7),
	} {
		for _, front := range []api.Nat{"", "\x00", zeros(16)} {
			if n, ok := nat.Int(front + a); n != 0 || ok {
				t.Errorf("Int(%x) = %d, %t", string(front+a), n, ok)
			}
		}
	}
}

func TestIntUndoesOf(t *testing.T) {
	s := &samples{state: 1}
	for range 2000 {
		n := int(s.next() >> (1 + s.below(63)))
		if m, ok := nat.Int(nat.Of(n)); m != n || !ok || !nat.Right(nat.Of(n)) {
			t.Fatalf("Int(Of(%d)) = %d, %t", n, m, ok)
		}
	}
}
