package nat_test

import (
	"math/big"
	"strings"
	"testing"

	"concord/api"
	"concord/nat"
)

// P1.5: Text and Parse.

// checkText checks that a number and its text are converted into each other.
func checkText(t *testing.T, a api.Nat) {
	t.Helper()
	want := toBig(a).String()
	if s := nat.Text(a); s != want {
		t.Fatalf("Text(%x) = %q, not %q", string(a), s, want)
	}
	b, ok := nat.Parse(want)
	if !ok {
		t.Fatalf("Parse(%q) is false", want)
	}
	check(t, "Parse", b, toBig(a))
}

func TestTextOfSmallNumbers(t *testing.T) {
	for a, want := range map[api.Nat]string{
		"": "0", "\x00": "0", "\x00\x00": "0", zeros(30): "0", "\x01": "1", "\x00\x09": "9", "\x0a": "10", "\x63": "99", "\x64": "100",
		"\x00\x00\x07": "7", "\x01\x00\x00": "65536", "\xff\xff\xff\xff\xff\xff\xff\xff": "18446744073709551615",
	} {
		if s := nat.Text(a); s != want {
			t.Errorf("Text(%x) = %q", string(a), s)
		}
	}
	for n := range int64(2000) {
		checkText(t, small(n))
	}
}

// TestTextAtPowersOfTen has numbers whose texts contain many zeros or nines, wherever a program may cut them.
func TestTextAtPowersOfTen(t *testing.T) {
	ten := big.NewInt(10)
	for n := range int64(130) {
		power := new(big.Int).Exp(ten, big.NewInt(n), nil)
		for plus := int64(-2); plus <= 2; plus++ {
			if a := new(big.Int).Add(power, big.NewInt(plus)); a.Sign() >= 0 {
				checkText(t, toNat(a))
			}
		}
		for _, m := range []int64{4, 9, 17, 18, 19, 20, 37, 38, 39, 57} {
			other := new(big.Int).Exp(ten, big.NewInt(m), nil)
			checkText(t, toNat(other.Add(other, power)))
		}
	}
}

func TestTextOfSamples(t *testing.T) {
	s := &samples{state: 19}
	for range 4000 {
		a := s.any()
		checkText(t, a)
		checkText(t, zeros(s.below(20))+a)
	}
	for n := range uint(400) {
		checkText(t, power2(n, 0))
		checkText(t, power2(n, -1))
	}
}

func TestTextOfLargeNumbers(t *testing.T) {
	s := &samples{state: 20}
	checkText(t, s.bytes(20000))
	checkText(t, zeros(20000))
	a, ok := nat.Parse("1" + strings.Repeat("0", 30000))
	if want := new(big.Int).Exp(big.NewInt(10), big.NewInt(30000), nil); !ok || a != toNat(want) {
		t.Error("Parse of 10^30000")
	}
}

func TestParseOfTextsThatAreNone(t *testing.T) {
	for _, s := range []string{
		"", " ", "00", "000", "007", "01", "0123456789", "-1", "-0", "+1", "+0", "--1", "1-", "1+",
		" 1", "1 ", "1\n", "\n1", "\t1", "1 000", "1_000", "1,000", "1.0", "1.", ".1", "1e3", "0x10", "0b1", "0o7", "ff", "x", "1x", "x1",
		"0\x00", "\x00", "\x000", "1\x00", "/", ":", "1/", "1:", "/1", ":1", "9:", "12:4", "12/4", "\xb2", "1\xff", "\xff\xff",
		"\u0661", "\uff11", "1\u0660", "\u00b9", "one", "1000000000000000000000x", "x1000000000000000000000",
		"100000000000000000000 0", "-100000000000000000000", strings.Repeat("0", 40), strings.Repeat("9", 19) + "/" + strings.Repeat("9", 19),
	} {
		if a, ok := nat.Parse(s); ok || a != "" {
			t.Errorf("Parse(%q) = %x, %t", s, string(a), ok)
		}
	}
}

// TestParseOfZerosInFront has texts with zeros in front, of all lengths at which a program may cut them.
func TestParseOfZerosInFront(t *testing.T) {
	for size := range 60 {
		digits := strings.Repeat("7", size)
		for _, front := range []string{"0", "00", strings.Repeat("0", 19), strings.Repeat("0", 38)} {
			if s := front + digits; s != "0" {
				if a, ok := nat.Parse(s); ok || a != "" {
					t.Errorf("Parse(%q) = %x, %t", s, string(a), ok)
				}
			}
		}
	}
	if a, ok := nat.Parse("0"); a != "" || !ok {
		t.Errorf("Parse of 0 = %x, %t", string(a), ok)
	}
}

// TestParseOfWrongBytes puts each byte at each place of a text.
func TestParseOfWrongBytes(t *testing.T) {
	const text = "1234567890123456789012345678901234567890"
	for place := range len(text) {
		for b := range 256 {
			s := text[:place] + string([]byte{byte(b)}) + text[place+1:]
			isDigit := b >= '0' && b <= '9' && (place > 0 || b != '0')
			a, ok := nat.Parse(s)
			if ok != isDigit {
				t.Fatalf("Parse(%q) is %t", s, ok)
			}
			if ok && nat.Text(a) != s || !ok && a != "" {
				t.Fatalf("Parse(%q) = %x", s, string(a))
			}
		}
	}
}
