package decimal_test

import (
	"fmt"
	"sync"
	"testing"

	"concord/api"
	"concord/decimal"
)

// The rules R2 and R4 of DOC.md and the promise P1, for all functions of the package.

// arguments are arguments for all functions.
type arguments struct {
	a, b     api.Dec
	n, scale int
	s        string
}

// someArguments returns arguments of all forms.
func someArguments() []arguments {
	s := &samples{state: 70}
	wrong, ints, scales := wrongDecimals(), extremeInts(), extremeScales()
	var l []arguments
	for range 5000 {
		x := arguments{s.right(), s.right(), s.units(), s.below(7), ""}
		switch s.below(6) {
		case 0:
			x.a, x.n = element(s, wrong), element(s, ints)
		case 1:
			x.b, x.scale = element(s, wrong), element(s, scales)
		case 2:
			x.a, x.b = api.Dec{N: element(s, ints), Scale: element(s, scales)}, api.Dec{N: element(s, ints), Scale: s.below(7)}
			x.n, x.scale = element(s, ints), element(s, scales)
		}
		if s.below(2) == 0 {
			x.s = toText(s.right())
		}
		for range s.below(3) * s.below(10) {
			x.s += string("-+.0123456789e \x00\xff"[s.below(17)])
		}
		l = append(l, x)
	}
	return l
}

// result is a decimal that a call returned, and the boolean beside it.
type result struct {
	call string
	got  api.Dec
	ok   bool
}

// allResults returns the results of all calls that return a decimal.
func allResults(x arguments) []result {
	var l []result
	add := func(call string) func(api.Dec, bool) {
		return func(got api.Dec, ok bool) { l = append(l, result{call, got, ok}) }
	}
	add("Of")(decimal.Of(x.n))
	add("Make")(decimal.Make(x.n, x.scale))
	add("Add")(decimal.Add(x.a, x.b))
	add("Sub")(decimal.Sub(x.a, x.b))
	add("Mul")(decimal.Mul(x.a, x.b))
	add("Round")(decimal.Round(x.a, x.scale))
	add("Parse")(decimal.Parse(x.s))
	return l
}

// everything returns the results of all calls as a text.
func everything(x arguments) string {
	return fmt.Sprint(allResults(x), decimal.Right(x.a), decimal.Cmp(x.a, x.b), decimal.Text(x.a))
}

// TestNoResultIsZero also shows that no call panics (P1), and that each result is right.
func TestNoResultIsZero(t *testing.T) {
	all := someArguments()
	returned := map[string]int{}
	for _, x := range all {
		for _, r := range allResults(x) {
			switch {
			case !r.ok && r.got != api.Dec{}:
				t.Fatalf("%s of %#v = %v, false", r.call, x, r.got)
			case r.ok && !isRight(r.got):
				t.Fatalf("%s of %#v = %v, which is not right", r.call, x, r.got)
			case r.ok:
				returned[r.call]++
			}
		}
		everything(x)
	}
	for _, call := range []string{"Of", "Make", "Add", "Sub", "Mul", "Round", "Parse"} {
		if returned[call] < 300 || returned[call] == len(all) {
			t.Errorf("%s was true for %d arguments", call, returned[call])
		}
	}
}

// TestResultsDependOnArgumentsOnly repeats calls in another order, and in several goroutines.
func TestResultsDependOnArgumentsOnly(t *testing.T) {
	all := someArguments()
	want := make([]string, len(all))
	for i, x := range all {
		want[i] = everything(x)
	}
	var group sync.WaitGroup
	for range 4 {
		group.Go(func() {
			for i := len(all) - 1; i >= 0; i-- {
				if everything(all[i]) != want[i] {
					t.Errorf("other results for %#v", all[i])
				}
			}
		})
	}
	group.Wait()
}
