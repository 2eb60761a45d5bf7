package nat_test

import (
	"sync"
	"testing"

	"concord/api"
	"concord/nat"
)

// The rules R1 to R5 and the promise P1 of DOC.md, for all functions of the package.

// allResults returns the results of all calls with these arguments, as text, and the numbers among them.
func allResults(n int, a, b, c api.Nat) (string, []api.Nat) {
	difference, is := nat.Sub(a, b)
	quotient, rest, divided := nat.Quo(a, b)
	power, raised := nat.Pow(a, c, b)
	parsed, known := nat.Parse(string(a))
	again, _ := nat.Parse(nat.Text(a))
	value, fits := nat.Int(a)
	numbers := []api.Nat{nat.Of(n), nat.Of(value), nat.Of(nat.Bits(a)), nat.Add(a, b), difference, nat.Mul(a, b), quotient, rest, nat.Gcd(a, b), power, parsed, again}
	text := nat.Text(a) + " " + nat.Text(nat.Of(nat.Cmp(a, b)+1))
	for _, flag := range []bool{is, divided, raised, known, fits, nat.Right(a)} {
		text += " " + nat.Text(nat.Of(btoi(flag)))
	}
	for _, a := range numbers {
		text += " " + string(a)
	}
	return text, numbers
}

// btoi returns 1 for true, and 0 for false.
func btoi(b bool) int {
	if b {
		return 1
	}
	return 0
}

// someArguments returns arguments of all forms, with exponents that are not too great.
func someArguments() [][3]api.Nat {
	s := &samples{state: 28}
	var l [][3]api.Nat
	for range 800 {
		l = append(l, [3]api.Nat{s.any(), s.any(), s.bytes(s.below(5))})
	}
	for _, a := range []api.Nat{"", "\x00", "\x01", "0", "00", "12", "1x", "\xff", "\x80\x00\x00\x00\x00\x00\x00\x00", zeros(16)} {
		for _, b := range []api.Nat{"", "\x00", "\x01", "\x02", "\xff\xff\xff\xff\xff\xff\xff\xff", zeros(16)} {
			for _, c := range []api.Nat{"", "\x00", "\x01", "\x02"} {
				l = append(l, [3]api.Nat{a, b, c})
			}
		}
	}
	return l
}

// TestAllResultsAreRight also shows that no call panics (P1).
func TestAllResultsAreRight(t *testing.T) {
	s := &samples{state: 29}
	for _, l := range someArguments() {
		_, numbers := allResults(int(s.next()), l[0], l[1], l[2])
		for i, a := range numbers {
			if len(a) > 0 && a[0] == 0 {
				t.Fatalf("result %d of %x, %x, %x is not right", i, string(l[0]), string(l[1]), string(l[2]))
			}
		}
	}
}

// TestOnlyValuesMatter compares the results for right arguments with those for the same numbers with zeros in front.
func TestOnlyValuesMatter(t *testing.T) {
	for _, l := range someArguments() {
		a, b, c := toNat(toBig(l[0])), toNat(toBig(l[1])), toNat(toBig(l[2]))
		_, want := allResults(7, a, b, c)
		_, got := allResults(7, "\x00"+a, zeros(8)+b, zeros(3)+c)
		for i := range want {
			if got[i] != want[i] && i != 10 { // the result 10 is that of Parse, whose argument is no number
				t.Fatalf("result %d of %x, %x, %x depends on zeros in front", i, string(a), string(b), string(c))
			}
		}
	}
}

// TestResultsDependOnArgumentsOnly repeats calls in another order, and in several goroutines.
func TestResultsDependOnArgumentsOnly(t *testing.T) {
	arguments := someArguments()
	want := make([]string, len(arguments))
	for i, l := range arguments {
		want[i], _ = allResults(i, l[0], l[1], l[2])
	}
	var group sync.WaitGroup
	for range 4 {
		group.Go(func() {
			for i := len(arguments) - 1; i >= 0; i-- {
				l := arguments[i]
				if got, _ := allResults(i, l[0], l[1], l[2]); got != want[i] {
					t.Errorf("other results for %x, %x, %x", string(l[0]), string(l[1]), string(l[2]))
				}
			}
		})
	}
	group.Wait()
}
