package ratio

import (
	"strings"

	"concord/api"
	"concord/nat"
)

// Text returns the numerator, with - in front of it for negative numbers, and, unless the denominator is 1, / and the denominator.
func Text(a api.Rat) string {
	a = value(a)
	text := nat.Text(a.Num)
	if a.Neg {
		text = "-" + text
	}
	if a.Den != one {
		text += "/" + nat.Text(a.Den)
	}
	return text
}

// Parse returns the right number whose Text is s, and true; otherwise false.
func Parse(s string) (api.Rat, bool) {
	digits, neg := strings.CutPrefix(s, "-")
	above, below, divided := strings.Cut(digits, "/")
	num, ok := nat.Parse(above)
	if !ok {
		return api.Rat{}, false
	}
	den := one
	if divided {
		den, ok = nat.Parse(below)
		if !ok || den == one {
			return api.Rat{}, false
		}
	}
	if a := (api.Rat{Neg: neg, Num: num, Den: den}); Right(a) {
		return a, true
	}
	return api.Rat{}, false
}
