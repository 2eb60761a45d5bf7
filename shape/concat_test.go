package shape_test

import (
	"math"
	"strings"
	"testing"

	"concord/api"
	"concord/shape"
)

// P8.5: Concat. P8.6: Part, Upper, Lower.

// wantedConcat returns what Concat has to return.
func wantedConcat(a, b api.Shape) api.Shape {
	leastA, greatestA, ownA := facts(a)
	leastB, greatestB, ownB := facts(b)
	if isEmpty(a) || isEmpty(b) || leastA+leastB > 200 {
		return none()
	}
	want := api.Shape{Least: leastA + leastB, Most: greatestA + greatestB, Classes: ownA | ownB, Begin: a.Begin, End: b.End}
	if want.Most > 200 {
		want.Most = 200
	}
	if leastA == greatestA && leastA == len(a.Begin) {
		want.Begin = a.Begin + b.Begin
	}
	if leastB == greatestB && leastB == len(b.Begin) {
		want.End = a.End + b.Begin
	}
	return want
}

func TestExamplesOfConcat(t *testing.T) {
	digits := api.Shape{Most: 5, Classes: 2}
	open, closed := api.Shape{Most: 3, Classes: 8, End: "a"}, api.Shape{Least: 2, Most: 2, Classes: 8, Begin: "bc"}
	x := strings.Repeat("x", 100)
	for _, c := range []struct{ a, b, want api.Shape }{
		{of("a"), digits, api.Shape{Least: 1, Most: 6, Classes: 10, Begin: "a"}}, {digits, of("a"), api.Shape{Least: 1, Most: 6, Classes: 10, End: "a"}}, {open, closed, api.Shape{Least: 3, Most: 5, Classes: 8, End: "abc"}}, {closed, open, api.Shape{Least: 3, Most: 5, Classes: 8, Begin: "bc", End: "a"}}, {closed, closed, api.Shape{Least: 4, Most: 4, Classes: 8, Begin: "bcbc", End: "bc"}}, {of("a"), closed, api.Shape{Least: 3, Most: 3, Classes: 8, Begin: "abc", End: "abc"}}, {closed, of("a"), api.Shape{Least: 3, Most: 3, Classes: 8, Begin: "bca", End: "a"}},
		{of("a"), of("1"), of("a1")}, {of(""), of(""), of("")}, {of(""), closed, api.Shape{Least: 2, Most: 2, Classes: 8, Begin: "bc", End: "bc"}}, {closed, of(""), closed}, {of(""), open, api.Shape{Least: 1, Most: 3, Classes: 8, End: "a"}}, {open, of(""), api.Shape{Least: 1, Most: 3, Classes: 8, End: "a"}}, {api.Shape{Least: -3, Classes: -1}, of("ab"), api.Shape{Least: 2, Most: 2, Classes: 110, Begin: "ab", End: "ab"}},
		{full(), full(), full()}, {none(), of("a"), none()}, {of("a"), none(), none()}, {none(), none(), none()}, {api.Shape{Least: 2, Most: 1, Classes: 8}, of("a"), none()}, {of("a"), api.Shape{Most: 9, Classes: 8, Begin: "A"}, none()},
		{api.Shape{Least: 101, Most: 150, Classes: 8}, api.Shape{Least: 100, Most: 150, Classes: 8}, none()}, {api.Shape{Least: 100, Most: 150, Classes: 8}, api.Shape{Least: 100, Most: 150, Classes: 8}, api.Shape{Least: 200, Most: 200, Classes: 8}}, {of(x), of(x), of(x + x)}, {of(x + "x"), of(x), none()}, {of(x), api.Shape{Least: math.MinInt, Most: math.MaxInt, Classes: -1, End: x}, api.Shape{Least: 200, Most: 200, Classes: 110, Begin: x, End: x}}, {api.Shape{Most: 150, Classes: 8, Begin: "a"}, api.Shape{Most: 49, Classes: 2}, api.Shape{Least: 1, Most: 199, Classes: 10, Begin: "a"}}, {api.Shape{Most: 150, Classes: 8}, api.Shape{Most: 51, Classes: 2}, api.Shape{Most: 200, Classes: 10}},
		{api.Shape{Most: 3, Classes: 8, Begin: "ab", End: "ba"}, of("c"), api.Shape{Least: 3, Most: 4, Classes: 8, Begin: "ab", End: "bac"}}, {api.Shape{Least: 1, Most: 3, Classes: 8, Begin: "abc"}, digits, api.Shape{Least: 3, Most: 8, Classes: 10, Begin: "abc"}}, {api.Shape{Least: 1, Most: 3, Classes: 8, End: "abc"}, digits, api.Shape{Least: 3, Most: 8, Classes: 10}}, {of("a"), api.Shape{Least: 1, Most: 3, Classes: 8, Begin: "b", End: "abc"}, none()}, {of("a"), api.Shape{Least: 1, Most: 3, Classes: 8, Begin: "a", End: "abc"}, api.Shape{Least: 4, Most: 4, Classes: 8, Begin: "aa", End: "abc"}},
	} {
		if got := shape.Concat(c.a, c.b); got != c.want {
			t.Errorf("Concat(%s, %s) = %s, not %s", show(c.a), show(c.b), show(got), show(c.want))
		}
	}
}

// TestConcatWithoutTexts has a shape whose shortest text is longer than its least length: the result is not the empty shape, although no text has its length and its ends.
func TestConcatWithoutTexts(t *testing.T) {
	a, x := api.Shape{Most: 9, Classes: 8, Begin: "ab", End: "ba"}, strings.Repeat("x", 198)
	want := api.Shape{Least: 200, Most: 200, Classes: 8, Begin: "ab", End: "ba" + x}
	if got := shape.Concat(a, of(x)); got != want || shape.Empty(a) || !shape.Empty(got) {
		t.Errorf("Concat(%s, %s) = %s", show(a), show(of(x)), show(got))
	}
	if got := shape.Concat(a, of(x[1:])); got.Most != 200 || shape.Empty(got) {
		t.Errorf("Concat(%s, %s) = %s", show(a), show(of(x[1:])), show(got))
	}
}

// checkConcat compares the result of Concat, and returns it.
func checkConcat(t *testing.T, a, b api.Shape) api.Shape {
	t.Helper()
	got, want := shape.Concat(a, b), wantedConcat(a, b)
	if got != want {
		t.Fatalf("Concat(%s, %s) = %s, not %s", show(a), show(b), show(got), show(want))
	}
	return got
}

func TestConcatOfSamples(t *testing.T) {
	s := &samples{state: 20}
	empty, longEnds := 0, 0
	const tries = 15000
	for range tries {
		a, b := s.pair()
		got := checkConcat(t, a, b)
		if got == none() {
			empty++
		}
		if got != none() && (got.Begin != a.Begin || got.End != b.End) {
			longEnds++
		}
	}
	if empty < tries/10 || empty > tries*9/10 || longEnds < tries/50 || longEnds > tries/2 {
		t.Errorf("of %d results %d are empty, %d have longer ends", tries, empty, longEnds)
	}
}

func TestConcatOfAllForms(t *testing.T) {
	l := someShapes(60, 21)
	for _, a := range l {
		for _, b := range l {
			checkConcat(t, a, b)
		}
	}
}

// TestConcatOfLengths has lengths whose sums are next to the limits.
func TestConcatOfLengths(t *testing.T) {
	for _, least := range []int{0, 1, 99, 100, 101, 199, 200} {
		for _, other := range []int{0, 1, 99, 100, 101, 199, 200} {
			for _, more := range []int{0, 1, 2, 99, 100, 101} {
				a, b := api.Shape{Least: least, Most: least + more, Classes: 8}, api.Shape{Least: other, Most: other + more/2, Classes: 4}
				want := none()
				if least+other <= 200 {
					want = api.Shape{Least: least + other, Most: min(200, min(200, a.Most)+min(200, b.Most)), Classes: 12}
				}
				if got := shape.Concat(a, b); got != want {
					t.Errorf("Concat(%v, %v) = %v", a, b, got)
				}
			}
		}
	}
}

// inCase returns a string with the letters of one list replaced by those of another one.
func inCase(s, from, to string) string {
	text := []byte(s)
	for i, c := range text {
		if at := strings.IndexByte(from, c); at >= 0 {
			text[i] = to[at]
		}
	}
	return string(text)
}

// wantedCase returns what Upper or Lower has to return, for bits and letters that are replaced by others.
func wantedCase(a api.Shape, bit, newBit int, from, to string) api.Shape {
	if isEmpty(a) {
		return none()
	}
	least, greatest, own := facts(a)
	if own&bit != 0 {
		own = own - bit | newBit
	}
	return api.Shape{Least: least, Most: greatest, Classes: own, Begin: inCase(a.Begin, from, to), End: inCase(a.End, from, to)}
}

// checkChanges compares the results of Part, Upper and Lower, and returns whether they are empty.
func checkChanges(t *testing.T, a api.Shape) bool {
	t.Helper()
	want := none()
	if !isEmpty(a) {
		_, greatest, own := facts(a)
		want = api.Shape{Least: 0, Most: greatest, Classes: own, Begin: "", End: ""}
	}
	part := shape.Part(a)
	if part != want {
		t.Fatalf("Part(%s) = %s, not %s", show(a), show(part), show(want))
	}
	if got, want := shape.Upper(a), wantedCase(a, 8, 4, lowerLetters, upperLetters); got != want {
		t.Fatalf("Upper(%s) = %s, not %s", show(a), show(got), show(want))
	}
	if got, want := shape.Lower(a), wantedCase(a, 4, 8, upperLetters, lowerLetters); got != want {
		t.Fatalf("Lower(%s) = %s, not %s", show(a), show(got), show(want))
	}
	return part == none()
}

func TestExamplesOfPartUpperLower(t *testing.T) {
	for _, c := range []struct{ a, part, upper, lower api.Shape }{
		{of("a1b"), api.Shape{Most: 3, Classes: 10}, of("A1B"), of("a1b")}, {of("A1b"), api.Shape{Most: 3, Classes: 14}, of("A1B"), of("a1b")}, {of("A"), api.Shape{Most: 1, Classes: 4}, of("A"), of("a")}, {of(""), of(""), of(""), of("")}, {of("1 -"), api.Shape{Most: 3, Classes: 98}, of("1 -"), of("1 -")}, {none(), none(), none(), none()}, {api.Shape{Least: 3, Most: 2, Classes: 12}, none(), none(), none()}, {api.Shape{Most: 5, Classes: 8, Begin: "A"}, none(), none(), none()},
		{full(), full(), api.Shape{Most: 200, Classes: 102}, api.Shape{Most: 200, Classes: 106}}, {api.Shape{Least: -9, Most: 999, Classes: -1}, full(), api.Shape{Most: 200, Classes: 102}, api.Shape{Most: 200, Classes: 106}}, {api.Shape{Least: 1, Most: 9, Classes: 12, Begin: "aZ", End: "z"}, api.Shape{Most: 9, Classes: 12}, api.Shape{Least: 2, Most: 9, Classes: 4, Begin: "AZ", End: "Z"}, api.Shape{Least: 2, Most: 9, Classes: 8, Begin: "az", End: "z"}}, {api.Shape{Most: 4, Classes: 24, End: "xyz"}, api.Shape{Most: 4, Classes: 8}, api.Shape{Least: 3, Most: 4, Classes: 4, End: "XYZ"}, api.Shape{Least: 3, Most: 4, Classes: 8, End: "xyz"}},
		{of(allCharacters), api.Shape{Most: 95, Classes: 110}, api.Shape{Least: 95, Most: 95, Classes: 102, Begin: inCase(allCharacters, lowerLetters, upperLetters), End: inCase(allCharacters, lowerLetters, upperLetters)}, api.Shape{Least: 95, Most: 95, Classes: 106, Begin: inCase(allCharacters, upperLetters, lowerLetters), End: inCase(allCharacters, upperLetters, lowerLetters)}},
	} {
		if part, upper, lower := shape.Part(c.a), shape.Upper(c.a), shape.Lower(c.a); part != c.part || upper != c.upper || lower != c.lower {
			t.Errorf("of %s: Part %s, Upper %s, Lower %s", show(c.a), show(part), show(upper), show(lower))
		}
	}
}

func TestPartUpperLowerOfSamples(t *testing.T) {
	empty := 0
	all := append(someShapes(10000, 22), smallShapes()...)
	for _, a := range all {
		if checkChanges(t, a) {
			empty++
		}
	}
	if empty < len(all)/10 || empty > len(all)*9/10 {
		t.Errorf("%d of %d results are empty", empty, len(all))
	}
}
