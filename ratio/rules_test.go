package ratio_test

import (
	"fmt"
	"slices"
	"sync"
	"testing"

	"concord/api"
	"concord/ratio"
)

// P2.1, and the rules R1 to R5 and the promise P1 of DOC.md, for all functions of the package.

// arguments are arguments for all functions.
type arguments struct {
	n    int
	a, b api.Rat
	l    []api.Rat
	s    string
}

// results are all results of type api.Rat, with the booleans beside them (true, where there is none), and the others as text.
type results struct {
	names   []string
	numbers []api.Rat
	flags   []bool
	others  string
}

// add appends a number with the boolean beside it.
func (r *results) add(name string, a api.Rat, ok bool) {
	r.names, r.numbers, r.flags = append(r.names, name), append(r.numbers, a), append(r.flags, ok)
}

// allResults returns the results of all calls with these arguments.
func allResults(x arguments) results {
	var r results
	r.add("Of", ratio.Of(x.n), true)
	r.add("Neg", ratio.Neg(x.a), true)
	r.add("Add", ratio.Add(x.a, x.b), true)
	r.add("Sub", ratio.Sub(x.a, x.b), true)
	r.add("Mul", ratio.Mul(x.a, x.b), true)
	r.add("Sum", ratio.Sum(x.l), true)
	made, ok := ratio.Make(x.a.Neg, x.a.Num, x.b.Den)
	r.add("Make", made, ok)
	quotient, ok := ratio.Quo(x.a, x.b)
	r.add("Quo", quotient, ok)
	parsed, ok := ratio.Parse(x.s)
	r.add("Parse", parsed, ok)
	d, numbers, ok := ratio.Common(x.l)
	r.others = fmt.Sprintf("%#v %#v %t %t %d %d %#v", d, numbers, ok, ratio.Right(x.a), ratio.Sign(x.a), ratio.Cmp(x.a, x.b), ratio.Text(x.a))
	return r
}

// text returns all of it as text.
func (r results) text() string { return fmt.Sprintf("%#v", r) }

// someArguments returns arguments of all forms.
func someArguments() []arguments {
	s := &samples{state: 30}
	var l []arguments
	for range 600 {
		l = append(l, arguments{s.below(1<<62) - 1<<61, s.any(), s.any(), s.list(s.below(5), s.any), textOf(s.any())})
	}
	texts := []string{"", "-", "/", "-0", "6/4", "\xff", "1/2/3"}
	for i, a := range wrongNumbers() {
		for _, b := range append(wrongNumbers(), of(0, 1), of(1, 3)) {
			l = append(l, arguments{i - 10, a, b, []api.Rat{a, b}, texts[i%len(texts)]})
		}
	}
	return l
}

// TestAllResultsAreRight also shows that no call panics (P1).
func TestAllResultsAreRight(t *testing.T) {
	for _, x := range someArguments() {
		r := allResults(x)
		for i, a := range r.numbers {
			if r.flags[i] && !isRight(a) || !r.flags[i] && a != (api.Rat{}) {
				t.Fatalf("%s of %#v, %#v, %#v, %#v = %#v, %t", r.names[i], x.a, x.b, x.l, x.s, a, r.flags[i])
			}
		}
	}
}

// TestWrongNumbersCountAsZero compares the results for numbers that are not right with those for 0.
func TestWrongNumbersCountAsZero(t *testing.T) {
	zero := of(0, 1)
	s := &samples{state: 31}
	for _, wrong := range wrongNumbers() {
		a := s.right()
		l := []api.Rat{a, wrong, a}
		if ratio.Sum(l) != ratio.Sum([]api.Rat{a, zero, a}) {
			t.Errorf("Sum of %#v", l)
		}
		for name, call := range map[string]func(a, b api.Rat) api.Rat{"Add": ratio.Add, "Sub": ratio.Sub, "Mul": ratio.Mul} {
			if call(a, wrong) != call(a, zero) || call(wrong, a) != call(zero, a) {
				t.Errorf("%s of %#v and %#v", name, a, wrong)
			}
		}
		if ratio.Cmp(a, wrong) != ratio.Cmp(a, zero) || ratio.Cmp(wrong, a) != ratio.Cmp(zero, a) || ratio.Text(wrong) != ratio.Text(zero) {
			t.Errorf("Cmp or Text of %#v", wrong)
		}
	}
}

// TestArgumentsAreNotModified also shows that results are new memory (R3).
func TestArgumentsAreNotModified(t *testing.T) {
	for _, x := range someArguments() {
		before := slices.Clone(x.l)
		first, firstNumbers, _ := ratio.Common(x.l)
		want := slices.Clone(firstNumbers)
		ratio.Sum(x.l)
		if !slices.Equal(x.l, before) {
			t.Fatalf("%#v becomes %#v", before, x.l)
		}
		for i := range firstNumbers {
			firstNumbers[i] = "other"
		}
		if again, numbers, _ := ratio.Common(x.l); again != first || !slices.Equal(numbers, want) {
			t.Fatalf("Common of %#v returns memory that it keeps", x.l)
		}
	}
}

// TestNilIsEmpty compares the results for a nil list with those for an empty one (R1).
func TestNilIsEmpty(t *testing.T) {
	x := arguments{l: nil}
	y := arguments{l: make([]api.Rat, 0, 5)}
	if allResults(x).text() != allResults(y).text() {
		t.Errorf("other results for an empty list: %s, %s", allResults(x).text(), allResults(y).text())
	}
}

// TestResultsDependOnArgumentsOnly repeats calls in another order, and in several goroutines.
func TestResultsDependOnArgumentsOnly(t *testing.T) {
	all := someArguments()
	want := make([]string, len(all))
	for i, x := range all {
		want[i] = allResults(x).text()
	}
	var group sync.WaitGroup
	for range 4 {
		group.Go(func() {
			for i := len(all) - 1; i >= 0; i-- {
				if allResults(all[i]).text() != want[i] {
					t.Errorf("other results for %#v", all[i].l)
				}
			}
		})
	}
	group.Wait()
}
