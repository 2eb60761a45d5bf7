package nat_test

import (
	"encoding/binary"
	"math/big"
	"testing"

	"concord/api"
	"concord/nat"
)

// The tests of this package call exported functions only, and compare their results with those of math/big. Samples come from a generator with a fixed start, so that each run tests the same numbers.

// samples generates numbers.
type samples struct{ state uint64 }

// next returns the next 64 bits (splitmix64).
func (s *samples) next() uint64 {
	s.state += 0x9e3779b97f4a7c15
	z := s.state
	z = (z ^ z>>30) * 0xbf58476d1ce4e5b9
	z = (z ^ z>>27) * 0x94d049bb133111eb
	return z ^ z>>31
}

// below returns a number from 0 to n - 1.
func (s *samples) below(n int) int { return int(s.next() % uint64(n)) }

// bytes returns a number with this many bytes, which need not be right.
func (s *samples) bytes(size int) api.Nat {
	var digits []byte
	for len(digits) < size {
		digits = binary.BigEndian.AppendUint64(digits, s.next())
	}
	return api.Nat(digits[:size])
}

// words returns a number of words of this many bytes, most of which are near the ends or the middle of their range: carries, borrows and wrong estimates of digits are frequent there, whatever the words of the program are.
func (s *samples) words(size, bytes int) api.Nat {
	var digits []byte
	for range size {
		word := make([]byte, bytes)
		switch s.below(6) {
		case 0: // 0
		case 1:
			word[bytes-1] = 1
		case 2:
			fill(word, 0xff)
		case 3:
			fill(word, 0xff)
			word[bytes-1] = 0xfe
		case 4:
			word[0] = 0x80
		case 5:
			word = []byte(s.bytes(bytes))
		}
		digits = append(digits, word...)
	}
	return api.Nat(digits)
}

// fill sets each byte to b.
func fill(digits []byte, b byte) {
	for i := range digits {
		digits[i] = b
	}
}

// any returns a number of one of several forms: with and without zeros in front, small and with some hundred bits.
func (s *samples) any() api.Nat {
	switch s.below(5) {
	case 0:
		return s.bytes(s.below(4))
	case 1:
		return s.bytes(s.below(40))
	case 2:
		return zeros(s.below(12)) + s.bytes(s.below(20))
	default:
		return s.words(s.below(6), 1<<s.below(4))
	}
}

// right returns a right number other than 0.
func (s *samples) right() api.Nat {
	for {
		if a := toNat(toBig(s.any())); a != "" {
			return a
		}
	}
}

// zeros returns this many bytes 0.
func zeros(n int) api.Nat { return api.Nat(make([]byte, n)) }

// toBig returns the value of a.
func toBig(a api.Nat) *big.Int { return new(big.Int).SetBytes([]byte(a)) }

// toNat returns the right number with the value a.
func toNat(a *big.Int) api.Nat { return api.Nat(a.Bytes()) }

// power2 returns 2 to the power of n, plus a small number.
func power2(n uint, plus int64) api.Nat {
	a := new(big.Int).Lsh(big.NewInt(1), n)
	return toNat(a.Add(a, big.NewInt(plus)))
}

// check reports a result that is not the right number with the value want.
func check(t *testing.T, call string, got api.Nat, want *big.Int, args ...api.Nat) {
	t.Helper()
	if got != toNat(want) {
		t.Fatalf("%s of %x = %x, not %x", call, args, string(got), want.Bytes())
	}
}

// small returns the number n, without the help of the package.
func small(n int64) api.Nat { return toNat(big.NewInt(n)) }

// quo returns the results of nat.Quo, which must be true.
func quo(t *testing.T, a, b api.Nat) (q, r api.Nat) {
	t.Helper()
	q, r, ok := nat.Quo(a, b)
	if !ok {
		t.Fatalf("Quo(%x, %x) is false", string(a), string(b))
	}
	return q, r
}

// pow returns the result of nat.Pow, which must be true.
func pow(t *testing.T, a, e, m api.Nat) api.Nat {
	t.Helper()
	x, ok := nat.Pow(a, e, m)
	if !ok {
		t.Fatalf("Pow(%x, %x, %x) is false", string(a), string(e), string(m))
	}
	return x
}
