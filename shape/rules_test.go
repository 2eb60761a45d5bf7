package shape_test

import (
	"fmt"
	"math"
	"slices"
	"strings"
	"sync"
	"testing"

	"concord/api"
	"concord/shape"
)

// The rules R1, R3, R4 and R5 of DOC.md and the promise P1, for all functions of the package. (No call has an error or a boolean beside another result.)

// arguments are arguments for all functions.
type arguments struct {
	a, b api.Shape
	s    string
	p    []api.Piece
}

// someArguments returns arguments of all forms.
func someArguments() []arguments {
	s := &samples{state: 50}
	wrong := wrongPatterns()
	var l []arguments
	for range 5000 {
		var x arguments
		x.a, x.b = s.pair()
		x.s, x.p = element(s, s.someTexts(x.a, x.b)), s.pattern(5)
		switch s.below(6) {
		case 0:
			x.a, x.b = s.change(s.change(x.a)), s.change(s.change(x.b))
		case 1:
			x.s = element(s, otherStrings())
		case 2:
			x.p = element(s, wrong)
		}
		l = append(l, x)
	}
	return l
}

// allShapes returns the results of all calls that return a shape.
func allShapes(x arguments) []api.Shape {
	return []api.Shape{shape.Full(), shape.Of(x.s), shape.Join(x.a, x.b), shape.Meet(x.a, x.b), shape.Concat(x.a, x.b), shape.Part(x.a), shape.Upper(x.a), shape.Lower(x.a), shape.Pattern(x.p)}
}

// everything returns the results of all calls as a text.
func everything(x arguments) string {
	return fmt.Sprint(allShapes(x), shape.Empty(x.a), shape.Contains(x.a, x.s), shape.Within(x.a, x.b), shape.Text(x.a))
}

// TestResultsAreInOneForm also shows that no call panics (P1): each result is the empty shape, or has texts or lengths from 0 to 200, own bits and ends that are not longer; but for a shape that Join returns as it is.
func TestResultsAreInOneForm(t *testing.T) {
	empty := make([]int, len(allShapes(arguments{})))
	all := someArguments()
	for _, x := range all {
		for i, got := range allShapes(x) {
			least, greatest, own := facts(got)
			switch {
			case got == none():
				empty[i]++
			case got == x.a && shape.Empty(x.b), got == x.b && shape.Empty(x.a):
			case got.Least != least || got.Most != greatest || got.Classes != own || least > greatest:
				t.Fatalf("the result number %d of %s, %s, %.50q, %v is %s", i, show(x.a), show(x.b), x.s, x.p, show(got))
			}
		}
		everything(x)
	}
	for i, count := range empty {
		if i > 0 && (count < 50 || count > len(all)*3/4) {
			t.Errorf("the result number %d was empty for %d arguments", i, count)
		}
	}
}

func TestNilIsEmpty(t *testing.T) {
	for _, p := range [][]api.Piece{nil, {}} {
		if got := shape.Pattern(p); got != (api.Shape{}) {
			t.Errorf("Pattern(%#v) = %v", p, got)
		}
	}
}

// TestPatternsAreNotModified also shows that they are not used behind their length.
func TestPatternsAreNotModified(t *testing.T) {
	for _, x := range someArguments() {
		long := append(slices.Clone(x.p), api.Piece{Text: "behind"})
		kept := slices.Clone(long)
		if got, want := shape.Pattern(long[:len(x.p)]), shape.Pattern(x.p); got != want || !slices.Equal(long, kept) {
			t.Fatalf("%v became %v, with %v, not %v", kept, long, got, want)
		}
	}
}

// TestResultsDependOnArgumentsOnly repeats calls in another order, and in several goroutines.
func TestResultsDependOnArgumentsOnly(t *testing.T) {
	all := someArguments()
	want := make([]string, len(all))
	for i, x := range all {
		want[i] = everything(x)
	}
	var group sync.WaitGroup
	for range 4 {
		group.Go(func() {
			for i := len(all) - 1; i >= 0; i-- {
				if everything(all[i]) != want[i] {
					t.Errorf("other results for %v", all[i])
				}
			}
		})
	}
	group.Wait()
}

// TestLongArguments has ends and patterns that are far too long.
func TestLongArguments(t *testing.T) {
	long := strings.Repeat("ab", 1<<20)
	a := api.Shape{Least: math.MinInt, Most: math.MaxInt, Classes: -1, Begin: long, End: long}
	b := a
	b.Begin += "c"
	for _, x := range []arguments{{a, b, long, slices.Repeat([]api.Piece{{Class: 3, Most: 200}}, 1<<20)}, {b, a, long, slices.Repeat([]api.Piece{{Text: long}}, 1<<10)}, {a, full(), long, nil}, {full(), b, "ab", nil}} {
		joined, met, all := shape.Join(x.a, x.b), shape.Meet(x.a, x.b), shape.Concat(x.a, x.b)
		want := none()
		if x.a == full() || x.b == full() {
			want = full()
		}
		if joined != want || met != none() || all != none() || shape.Within(x.a, x.b) != (x.a != full()) || shape.Contains(x.a, long) || shape.Empty(x.a) != (x.a != full()) {
			t.Errorf("%s and %s: %s, %s, %s", show(x.a), show(x.b), show(joined), show(met), show(all))
		}
		everything(x)
	}
}
