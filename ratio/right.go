package ratio

import (
	"concord/api"
	"concord/nat"
)

// Arguments of the functions in this file are right; so the exported functions, which look at each of their arguments once, need not do so at each step.

// one is the natural number 1.
const one api.Nat = "\x01"

// watch notices numbers that are not right.
type watch struct{ wrong bool }

// value returns what a counts as, which is right: a itself, or 0, if a is not right.
func (w *watch) value(a api.Rat) api.Rat {
	if Right(a) {
		return a
	}
	w.wrong = true
	return whole(false, "")
}

// value returns what a counts as, for calls that need not know whether it is right.
func value(a api.Rat) api.Rat {
	var unseen watch
	return unseen.value(a)
}

// whole returns a whole number; neg is false for 0.
func whole(neg bool, num api.Nat) api.Rat {
	return api.Rat{Neg: neg, Num: num, Den: one}
}

// sign returns -1, 0 or 1, as a is negative, 0 or positive.
func sign(a api.Rat) int {
	switch {
	case a.Neg:
		return -1
	case a.Num == "":
		return 0
	}
	return 1
}

// isNegative reports whether a is less than 0.
func isNegative(a api.Rat) bool { return a.Neg }

// negative returns -a.
func negative(a api.Rat) api.Rat {
	a.Neg = !a.Neg && a.Num != ""
	return a
}

// sum returns a + b. A prime that divides aPart or bPart divides just one of the two summands of num, and so not num; what is left to cancel divides shared, which is smaller than the product of the denominators.
func sum(a, b api.Rat) api.Rat {
	shared := nat.Gcd(a.Den, b.Den)
	aPart, bPart := over(a.Den, shared), over(b.Den, shared)
	neg, num := signedSum(a.Neg, nat.Mul(a.Num, bPart), b.Neg, nat.Mul(b.Num, aPart))
	left := nat.Gcd(num, shared)
	return api.Rat{Neg: neg, Num: over(num, left), Den: nat.Mul(aPart, over(b.Den, left))}
}

// signedSum returns the sum of a and b, each of which is negative if the flag before it is set; 0 is not negative.
func signedSum(aNeg bool, a api.Nat, bNeg bool, b api.Nat) (bool, api.Nat) {
	if aNeg == bNeg {
		return aNeg, nat.Add(a, b)
	}
	if difference, ok := nat.Sub(a, b); ok {
		return aNeg && difference != "", difference
	}
	difference, _ := nat.Sub(b, a)
	return bNeg, difference
}

// product returns a times b. It cancels before it multiplies, as smaller numbers are faster.
func product(a, b api.Rat) api.Rat {
	ab, ba := nat.Gcd(a.Num, b.Den), nat.Gcd(b.Num, a.Den)
	num := nat.Mul(over(a.Num, ab), over(b.Num, ba))
	den := nat.Mul(over(a.Den, ba), over(b.Den, ab))
	return api.Rat{Neg: a.Neg != b.Neg && num != "", Num: num, Den: den}
}

// over returns the quotient of a and a divisor of it, which is not 0.
func over(a, divisor api.Nat) api.Nat {
	if divisor == one {
		return a
	}
	quotient, _, _ := nat.Quo(a, divisor)
	return quotient
}

// fold returns what is made of start and all elements of l, one after the other.
func fold[E, T any](l []E, start T, with func(T, E) T) T {
	for _, element := range l {
		start = with(start, element)
	}
	return start
}

// mapped returns what is made of each element of l.
func mapped[E, T any](l []E, each func(E) T) []T {
	made := make([]T, len(l))
	for i, element := range l {
		made[i] = each(element)
	}
	return made
}
