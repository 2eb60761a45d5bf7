package interval_test

import (
	"fmt"
	"sync"
	"testing"

	"concord/api"
	"concord/interval"
)

// The rules R2 and R4 of DOC.md and the promise P1, for all functions of the package. (No argument or result has memory that could be shared or modified.)

// arguments are arguments for all functions.
type arguments struct {
	a, b            api.Range
	number          api.Dec
	scale           int
	one, two, three api.Span
}

// someArguments returns arguments of all forms.
func someArguments() []arguments {
	s := &samples{state: 60}
	wrong, ints, scales := wrongDecimals(), extremeInts(), extremeScales()
	var l []arguments
	for range 5000 {
		x := arguments{s.numbers(), s.numbers(), s.bound(), s.below(7), s.span(), s.span(), s.span()}
		switch s.below(5) {
		case 0:
			x.a.Low, x.b.High, x.number = element(s, wrong), element(s, wrong), element(s, wrong)
		case 1:
			x.scale = element(s, scales)
		case 2:
			x.a.High, x.b.Low = api.Dec{N: element(s, ints), Scale: element(s, scales)}, api.Dec{N: element(s, ints), Scale: s.below(7)}
		}
		l = append(l, x)
	}
	return l
}

// result is a range that a call returned, and the boolean beside it.
type result struct {
	call string
	got  api.Range
	ok   bool
}

// allResults returns the results of all calls that return a range.
func allResults(x arguments) []result {
	l := []result{{"Full", interval.Full(), true}, {"Join", interval.Join(x.a, x.b), true}, {"Meet", interval.Meet(x.a, x.b), true}}
	add := func(call string) func(api.Range, bool) {
		return func(got api.Range, ok bool) { l = append(l, result{call, got, ok}) }
	}
	add("Add")(interval.Add(x.a, x.b))
	add("Sub")(interval.Sub(x.a, x.b))
	add("Mul")(interval.Mul(x.a, x.b))
	add("Round")(interval.Round(x.a, x.scale))
	return l
}

// everything returns the results of all calls as a text.
func everything(x arguments) string {
	can, must := interval.Less(x.a, x.b)
	sums, all := interval.AddSpan(x.one, x.two, x.three)
	return fmt.Sprint(allResults(x), interval.Empty(x.a), interval.Contains(x.a, x.number), interval.Within(x.a, x.b), can, must, interval.Text(x.a), interval.JoinSpan(x.one, x.two), interval.MeetSpan(x.one, x.two), sums, all)
}

// TestAllResultsAreRanges also shows that no call panics (P1): each range that is returned is the empty one, or has right decimals as bounds in their order.
func TestAllResultsAreRanges(t *testing.T) {
	all := someArguments()
	empty := map[string]int{}
	for _, x := range all {
		for _, r := range allResults(x) {
			switch {
			case r.got == emptyRange():
				empty[r.call]++
			case !isRight(r.got.Low) || !isRight(r.got.High) || endsOf(r.got).isEmpty():
				t.Fatalf("%s of %v = %v", r.call, x, r.got)
			case r.call == "Round" && !r.ok:
				t.Fatalf("Round of %v = %v, false", x, r.got)
			}
		}
		everything(x)
	}
	for _, call := range []string{"Join", "Meet", "Add", "Sub", "Mul", "Round"} {
		if empty[call] < 50 || empty[call] > len(all)*3/4 {
			t.Errorf("%s was empty for %d arguments", call, empty[call])
		}
	}
}

// TestResultsDependOnArgumentsOnly repeats calls in another order, and in several goroutines.
func TestResultsDependOnArgumentsOnly(t *testing.T) {
	all := someArguments()
	want := make([]string, len(all))
	for i, x := range all {
		want[i] = everything(x)
	}
	var group sync.WaitGroup
	for range 4 {
		group.Go(func() {
			for i := len(all) - 1; i >= 0; i-- {
				if everything(all[i]) != want[i] {
					t.Errorf("other results for %v", all[i])
				}
			}
		})
	}
	group.Wait()
}
