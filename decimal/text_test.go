package decimal_test

import (
	"regexp"
	"strings"
	"testing"

	"concord/api"
	"concord/decimal"
)

// P4.5: Text, Parse.

// decimalText is the form of the texts of all right decimals whose number of digits is small enough.
var decimalText = regexp.MustCompile(`\A(?:0|-?[1-9][0-9]*|-?(?:0|[1-9][0-9]*)\.[0-9]{0,5}[1-9])\z`)

// parsed returns the decimal that Parse should return, without the help of the package.
func parsed(s string) (api.Dec, bool) {
	if !decimalText.MatchString(s) {
		return api.Dec{}, false
	}
	a, n := api.Dec{}, 0
	for _, c := range strings.TrimPrefix(s, "-") {
		if c == '.' {
			a.Scale = len(s) - 1 - strings.IndexByte(s, '.')
			continue
		}
		n = n*10 + int(c-'0')
		if n > api.MaxUnits {
			return api.Dec{}, false
		}
	}
	a.N = n
	if s[0] == '-' {
		a.N = -n
	}
	return a, true
}

// checkParse compares the result for s.
func checkParse(t *testing.T, s string) bool {
	t.Helper()
	want, right := parsed(s)
	a, ok := decimal.Parse(s)
	if a != want || ok != right {
		t.Fatalf("Parse(%q) = %v, %t, not %v, %t", s, a, ok, want, right)
	}
	return ok
}

// checkText compares the text of a, and what is read from it.
func checkText(t *testing.T, a api.Dec) {
	t.Helper()
	want := toBig(a).FloatString(0)
	if isRight(a) {
		want = toBig(a).FloatString(a.Scale)
	}
	if got := decimal.Text(a); got != want {
		t.Fatalf("Text(%v) = %q, not %q", a, got, want)
	}
	if b, ok := decimal.Parse(want); isRight(a) && b != a || !ok {
		t.Fatalf("Parse(%q) = %v, %t", want, b, ok)
	}
}

func TestExamplesOfText(t *testing.T) {
	for _, c := range []struct {
		a    api.Dec
		want string
	}{
		{api.Dec{N: -5, Scale: 2}, "-0.05"}, {api.Dec{}, "0"}, {api.Dec{N: 7}, "7"}, {api.Dec{N: -7}, "-7"}, {api.Dec{N: 100}, "100"}, {api.Dec{N: 15, Scale: 1}, "1.5"}, {api.Dec{N: 5, Scale: 1}, "0.5"}, {api.Dec{N: 5, Scale: 6}, "0.000005"}, {api.Dec{N: -123456, Scale: 6}, "-0.123456"}, {api.Dec{N: 1234567, Scale: 6}, "1.234567"}, {api.Dec{N: 1001, Scale: 2}, "10.01"}, {api.Dec{N: -101, Scale: 3}, "-0.101"},
		{api.Dec{N: 1000000000000000}, "1000000000000000"}, {api.Dec{N: -1000000000000000}, "-1000000000000000"}, {api.Dec{N: 999999999999999, Scale: 6}, "999999999.999999"}, {api.Dec{N: -999999999999999, Scale: 1}, "-99999999999999.9"},
	} {
		if got := decimal.Text(c.a); got != c.want {
			t.Errorf("Text(%v) = %q, not %q", c.a, got, c.want)
		}
		if a, ok := decimal.Parse(c.want); a != c.a || !ok {
			t.Errorf("Parse(%q) = %v, %t", c.want, a, ok)
		}
	}
}

func TestTextOfSmallDecimals(t *testing.T) {
	for _, a := range smallDecimals(2000) {
		checkText(t, a)
	}
}

func TestTextOfSamples(t *testing.T) {
	s := &samples{state: 40}
	for range 30000 {
		checkText(t, s.any())
	}
}

func TestTextOfDecimalsThatAreNotRight(t *testing.T) {
	for _, a := range wrongDecimals() {
		if got := decimal.Text(a); got != "0" {
			t.Fatalf("Text(%v) = %q", a, got)
		}
	}
}

func TestParseOfOtherTexts(t *testing.T) {
	for _, s := range []string{
		"", "-", "+", ".", "-.", "0.", "1.", ".0", ".5", "-.5", "-0", "-0.0", "0.0", "00", "01", "-01", "00.5", "01.5", "1.0", "1.50", "-1.50", "10.10", "+1", "+0.5", "1e3", "1E3", "0x1", "0b1", "1_000", "1,5", "--1", "-+1", "1-", "1.-5", "-1.-5", ".-5", "1..5", "1.5.", "1.5.5", "..5", " 1", "1 ", "1. 5", "1\n", "1.5\x00", "\x001", "\xff", "١", "１", "½", "Inf", "NaN", "nil", "12a", "a",
		"0.0000001", "0.1234567", "1000000000000001", "-1000000000000001", "1000000000000000.5", "1000000000.000001", "9223372036854775807", "9223372036854775808", "-9223372036854775808", "18446744073709551617", "184467440737095516.17", "18446744073709551617.1", "0.00000000000000000001", "0.18446744073709551617",
	} {
		a, ok := decimal.Parse(s)
		checkNone(t, "Parse", a, ok, s)
		checkParse(t, s)
	}
}

// TestParseOfAllShortTexts has all texts of up to five of the bytes that matter.
func TestParseOfAllShortTexts(t *testing.T) {
	const bytes = "-+.019_e "
	right := 0
	for length, count := 0, 1; length <= 5; length, count = length+1, count*len(bytes) {
		for n := range count {
			var text []byte
			for range length {
				text = append(text, bytes[n%len(bytes)])
				n /= len(bytes)
			}
			if checkParse(t, string(text)) {
				right++
			}
		}
	}
	if right != shortTexts() {
		t.Errorf("%d texts, not %d", right, shortTexts())
	}
}

// shortTexts counts the texts of up to five bytes with the digits 0, 1 and 9, by their forms.
func shortTexts() int {
	whole := func(digits int) int { // the numbers without a sign, apart from 0 with two digits in front or more
		if digits == 1 {
			return 3
		}
		return 2 * power3(digits-1)
	}
	count := 1 // the text 0
	for digits := 1; digits <= 5; digits++ {
		positive := 2 * power3(digits-1)
		count += positive
		if digits < 5 {
			count += positive
		}
		for places := 1; digits+1+places <= 5; places++ {
			fractions := whole(digits) * 2 * power3(places-1)
			count += fractions
			if digits+2+places <= 5 {
				count += fractions
			}
		}
	}
	return count
}

// power3 returns 3^n.
func power3(n int) int {
	product := 1
	for range n {
		product *= 3
	}
	return product
}

// TestParseOfChangedTexts has texts of decimals in which a byte is put in, taken out, or replaced.
func TestParseOfChangedTexts(t *testing.T) {
	s := &samples{state: 41}
	right := 0
	for range 60000 {
		text := toText(s.right())
		at := s.below(len(text))
		with := "-+.0123456789eE_ \x00\xff"[s.below(19):][:1]
		for _, changed := range []string{text[:at] + with + text[at:], text[:at] + text[at+1:], text[:at] + with + text[at+1:], text + with} {
			if checkParse(t, changed) {
				right++
			}
		}
	}
	if right < 20000 {
		t.Errorf("only %d texts are right", right)
	}
}

// toText returns the text of a right decimal.
func toText(a api.Dec) string { return toBig(a).FloatString(a.Scale) }

func TestParseOfLongTexts(t *testing.T) {
	for _, s := range []string{strings.Repeat("9", 1<<20), strings.Repeat("0", 1<<20), "0." + strings.Repeat("0", 1<<20) + "1", strings.Repeat("-", 1<<20), strings.Repeat(".", 1<<20), "1" + strings.Repeat("0", 1<<20) + ".5", strings.Repeat("1.", 1<<19), strings.Repeat("0", 1<<20) + "1"} {
		a, ok := decimal.Parse(s)
		checkNone(t, "Parse", a, ok, len(s))
	}
}
