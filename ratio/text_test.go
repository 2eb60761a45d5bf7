package ratio_test

import (
	"math/big"
	"strings"
	"testing"

	"concord/api"
	"concord/ratio"
)

// P2.6: Text and Parse.

func TestTextOfSmallNumbers(t *testing.T) {
	for want, a := range map[string]api.Rat{
		"0": {Den: "\x01"}, "1": {Num: "\x01", Den: "\x01"}, "-1": {Neg: true, Num: "\x01", Den: "\x01"}, "-3/2": {Neg: true, Num: "\x03", Den: "\x02"},
		"1/256": {Num: "\x01", Den: "\x01\x00"}, "256": {Num: "\x01\x00", Den: "\x01"}, "10/9": {Num: "\x0a", Den: "\x09"}, "-100/101": {Neg: true, Num: "\x64", Den: "\x65"},
	} {
		if got := ratio.Text(a); got != want {
			t.Errorf("Text(%#v) = %#v, not %#v", a, got, want)
		}
		if got, ok := ratio.Parse(want); got != a || !ok {
			t.Errorf("Parse(%#v) = %#v, %t", want, got, ok)
		}
	}
}

func TestTextOfNumbersThatAreNotRight(t *testing.T) {
	for _, a := range append(wrongNumbers(), spoiled(of(-3, 2))...) {
		if got := ratio.Text(a); got != "0" {
			t.Errorf("Text(%#v) = %#v", a, got)
		}
	}
}

// textOf returns the Text of a right number, by math/big.
func textOf(a api.Rat) string { return toBig(a).RatString() }

func TestTextOfSamples(t *testing.T) {
	s := &samples{state: 15}
	for range 3000 {
		a := s.right()
		if got, want := ratio.Text(a), textOf(a); got != want {
			t.Fatalf("Text(%#v) = %#v, not %#v", a, got, want)
		}
		if got, ok := ratio.Parse(textOf(a)); got != a || !ok {
			t.Fatalf("Parse(%#v) = %#v, %t", textOf(a), got, ok)
		}
	}
}

func TestTextOfLargeNumbers(t *testing.T) {
	above, below := "1"+strings.Repeat("0", 5000), strings.Repeat("9", 4000)
	for _, text := range []string{above, "-" + above, above + "/" + below, "-" + above + "/" + below, "-1/" + below, below + "/" + above} {
		a, ok := ratio.Parse(text)
		if !ok || a != number(t, text) {
			t.Fatalf("Parse of %d bytes is %t, or wrong", len(text), ok)
		}
		if ratio.Text(a) != text {
			t.Errorf("Text of a number with %d bytes", len(text))
		}
	}
}

func TestParseOfTextsThatAreNone(t *testing.T) {
	for _, text := range []string{
		"", " ", "-", "/", "-/", "--", "//", // nothing
		"-0", "0/1", "-0/1", "0/2", "0/0", "-0/5", "00", "0/01", // 0 in another form
		"3/1", "-3/1", "1/1", "6/4", "-6/4", "2/4", "2/2", "100/10", "18446744073709551616/2", // not in lowest terms
		"1/0", "-1/0", "5/00", "1/-0", // the divisor 0
		"1/", "-1/", "/2", "-/2", "0/", "/0", "/", // a part is missing
		"1/-2", "-1/-2", "1/+2", "+1", "+1/2", "+0", "--1", "--1/2", "1-", "1/2-", "-+1", "+-1", "1-2", // signs
		"01", "007", "01/2", "1/02", "-01", "-01/2", "1/002", "00/1", "1/000", // zeros in front
		"1/2/3", "1//2", "1/2/", "/1/2", "6/2/3", "1/2/1", // more than one /
		" 1", "1 ", "1/ 2", "1 /2", "- 1", "1\n", "\t1/2", "1/2\n", "1/2 ", " 1/2", "1/2\x00", "\x001/2", // spaces
		"1.5", "1e3", "0x10", "1_000", "1,5", "½", "\u0661", "\u22121", "1\u20442", "1\\2", "1:2", "a", "1/a", "a/2", "1a/2", "1/2a", "\xff", "1/\xff", "Inf", "NaN",
	} {
		a, ok := ratio.Parse(text)
		checkNone(t, "Parse of "+text, a, ok)
	}
}

// TestParseOfOtherForms writes numbers in forms that math/big reads, but that are not their Text.
func TestParseOfOtherForms(t *testing.T) {
	s := &samples{state: 16}
	for range 500 {
		a := toBig(s.right())
		factor := new(big.Int).Add(s.natural(), big.NewInt(1))
		above, below := new(big.Int).Mul(a.Num(), factor), new(big.Int).Mul(a.Denom(), factor)
		forms := []string{above.String() + "/" + below.String(), "+" + a.RatString(), "0" + a.RatString(), a.Num().String() + "/0" + a.Denom().String(), a.RatString() + "/1"}
		for _, text := range forms {
			got, ok := ratio.Parse(text)
			checkNone(t, "Parse of "+text, got, ok)
		}
	}
}

// TestParseOfOtherBytes puts each byte at each place of a text, and compares the result with the definition: a text is parsed if and only if it is the Text of the number that math/big reads.
func TestParseOfOtherBytes(t *testing.T) {
	for _, text := range []string{"-1234567890/7919", "29/30", "-5", "0", "7/2"} {
		for place := range len(text) {
			for b := range 256 {
				changed := text[:place] + string([]byte{byte(b)}) + text[place+1:]
				value, read := new(big.Rat).SetString(changed)
				want := read && value.RatString() == changed
				got, ok := ratio.Parse(changed)
				if ok != want {
					t.Fatalf("Parse(%#v) is %t", changed, ok)
				}
				if want {
					check(t, "Parse", got, value)
				} else {
					checkNone(t, "Parse of "+changed, got, ok)
				}
			}
		}
	}
}
