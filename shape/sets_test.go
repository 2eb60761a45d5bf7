package shape_test

import (
	"math"
	"strings"
	"testing"

	"concord/api"
	"concord/shape"
)

// P8.2: Join. P8.3: Meet. P8.4: Within.

// beginOfBoth returns the longest common beginning of two strings: the first one that is tried from the longest on.
func beginOfBoth(x, y string) string {
	for length := len(x); ; length-- {
		if strings.HasPrefix(y, x[:length]) {
			return x[:length]
		}
	}
}

// endOfBoth returns the longest common end of two strings.
func endOfBoth(x, y string) string {
	for from := 0; ; from++ {
		if strings.HasSuffix(y, x[from:]) {
			return x[from:]
		}
	}
}

// longest returns the longer one of two strings.
func longest(x, y string) string {
	if len(x) > len(y) {
		return x
	}
	return y
}

// wantedJoin returns what Join has to return.
func wantedJoin(a, b api.Shape) api.Shape {
	switch emptyA, emptyB := isEmpty(a), isEmpty(b); {
	case emptyA && emptyB:
		return none()
	case emptyA:
		return b
	case emptyB:
		return a
	}
	leastA, greatestA, ownA := facts(a)
	leastB, greatestB, ownB := facts(b)
	return api.Shape{Least: min(leastA, leastB), Most: max(greatestA, greatestB), Classes: ownA | ownB, Begin: beginOfBoth(a.Begin, b.Begin), End: endOfBoth(a.End, b.End)}
}

// wantedMeet returns what Meet has to return.
func wantedMeet(a, b api.Shape) api.Shape {
	if len(commonTexts(a, b)) == 0 {
		return none()
	}
	leastA, greatestA, ownA := facts(a)
	leastB, greatestB, ownB := facts(b)
	return api.Shape{Least: max(leastA, leastB), Most: min(greatestA, greatestB), Classes: ownA & ownB, Begin: longest(a.Begin, b.Begin), End: longest(a.End, b.End)}
}

// wantedWithin returns what Within has to return.
func wantedWithin(a, b api.Shape) bool {
	if isEmpty(a) || isEmpty(b) {
		return isEmpty(a)
	}
	leastA, greatestA, ownA := facts(a)
	leastB, greatestB, ownB := facts(b)
	return leastA >= leastB && greatestA <= greatestB && ownA|ownB == ownB && beginOfBoth(a.Begin, b.Begin) == b.Begin && endOfBoth(a.End, b.End) == b.End
}

// checkSets compares the results of the three calls, and returns whether the texts of both have something in common, and whether a is within b.
func checkSets(t *testing.T, a, b api.Shape) (common, within bool) {
	t.Helper()
	if got, want := shape.Join(a, b), wantedJoin(a, b); got != want {
		t.Fatalf("Join(%s, %s) = %s, not %s", show(a), show(b), show(got), show(want))
	}
	met, want := shape.Meet(a, b), wantedMeet(a, b)
	if met != want {
		t.Fatalf("Meet(%s, %s) = %s, not %s", show(a), show(b), show(met), show(want))
	}
	within = wantedWithin(a, b)
	if shape.Within(a, b) != within {
		t.Fatalf("Within(%s, %s) is %t", show(a), show(b), !within)
	}
	return met != none(), within
}

func TestExamplesOfJoin(t *testing.T) {
	x := strings.Repeat("x", 200)
	for _, c := range []struct{ a, b, want api.Shape }{
		{of("ab"), of("a1b"), api.Shape{Least: 2, Most: 3, Classes: 10, Begin: "a", End: "b"}}, {of("ab"), of("ab"), of("ab")}, {of("aba"), of("abba"), api.Shape{Least: 3, Most: 4, Classes: 8, Begin: "ab", End: "ba"}}, {of("ab"), of("AB"), api.Shape{Least: 2, Most: 2, Classes: 12}}, {of(""), of("a"), api.Shape{Most: 1, Classes: 8}}, {of("aa"), of("aaa"), api.Shape{Least: 2, Most: 3, Classes: 8, Begin: "aa", End: "aa"}},
		{none(), of("ab"), of("ab")}, {none(), none(), none()}, {none(), api.Shape{Least: 9, Most: 1}, none()}, {api.Shape{Least: 9, Most: 1}, api.Shape{Most: 9, Begin: "a"}, none()}, {full(), of("ab"), full()}, {full(), none(), full()},
		{none(), api.Shape{Least: -5, Most: 300, Classes: -1, Begin: "ab"}, api.Shape{Least: -5, Most: 300, Classes: -1, Begin: "ab"}}, {api.Shape{Least: 5}, api.Shape{Least: math.MinInt, Most: math.MaxInt}, api.Shape{Least: math.MinInt, Most: math.MaxInt}}, {api.Shape{Most: 9, Classes: 8, Begin: "aB"}, api.Shape{Least: -1, Most: 9, Classes: 9, End: "b"}, api.Shape{Least: -1, Most: 9, Classes: 9, End: "b"}},
		{api.Shape{Least: -5, Most: 300, Classes: -1, Begin: "ab"}, api.Shape{Least: -5, Most: 300, Classes: -1, Begin: "ab"}, api.Shape{Least: 2, Most: 200, Classes: 110, Begin: "ab"}}, {api.Shape{Least: -5, Most: 7, Classes: 25, End: "abc"}, api.Shape{Least: 5, Most: 201, Classes: 18, End: "5"}, api.Shape{Least: 3, Most: 200, Classes: 10}}, {of(x), of(x[:199]), api.Shape{Least: 199, Most: 200, Classes: 8, Begin: x[:199], End: x[:199]}},
		{api.Shape{Most: 3, Classes: 8, Begin: "ab", End: "ba"}, of("x"), api.Shape{Least: 1, Most: 3, Classes: 8}}, {api.Shape{Most: 2, Classes: 8, Begin: "ab", End: "ba"}, of("x"), of("x")},
	} {
		if got, other := shape.Join(c.a, c.b), shape.Join(c.b, c.a); got != c.want || other != c.want {
			t.Errorf("Join of %s and %s = %s, %s", show(c.a), show(c.b), show(got), show(other))
		}
	}
}

func TestExamplesOfMeet(t *testing.T) {
	big := api.Shape{Most: 9, Classes: 110, Begin: "a", End: "ba"}
	for _, c := range []struct{ a, b, want api.Shape }{
		{api.Shape{Most: 9, Classes: 110, Begin: "a"}, api.Shape{Most: 9, Classes: 110, Begin: "b"}, none()}, {big, api.Shape{Least: 3, Most: 300, Classes: 8, Begin: "ab", End: "a"}, api.Shape{Least: 3, Most: 9, Classes: 8, Begin: "ab", End: "ba"}}, {big, api.Shape{Most: 9, Classes: 110, Begin: "b"}, none()}, {big, api.Shape{Most: 9, Classes: 110, End: "ab"}, none()}, {big, api.Shape{Most: 1, Classes: 110}, none()}, {big, api.Shape{Most: 2, Classes: 110}, none()}, {big, api.Shape{Most: 3, Classes: 110}, api.Shape{Least: 2, Most: 3, Classes: 110, Begin: "a", End: "ba"}},
		{big, api.Shape{Most: 9, Classes: 4}, none()}, {big, api.Shape{Most: 9, Classes: 24}, api.Shape{Least: 2, Most: 9, Classes: 8, Begin: "a", End: "ba"}}, {big, of("aba"), of("aba")}, {big, of("abc"), none()}, {big, big, api.Shape{Least: 2, Most: 9, Classes: 110, Begin: "a", End: "ba"}}, {big, none(), none()}, {none(), none(), none()}, {full(), none(), none()}, {api.Shape{Least: 3, Most: 2}, full(), none()}, {full(), full(), full()}, {full(), big, api.Shape{Least: 2, Most: 9, Classes: 110, Begin: "a", End: "ba"}},
		{api.Shape{Most: 3, Classes: 110}, api.Shape{Least: 4, Most: 9, Classes: 110}, none()}, {api.Shape{Most: 4, Classes: 110}, api.Shape{Least: 4, Most: 9, Classes: 110}, api.Shape{Least: 4, Most: 4, Classes: 110}}, {api.Shape{Most: 3, Classes: 2}, api.Shape{Most: 4, Classes: 4}, api.Shape{Most: 3}}, {api.Shape{Least: 1, Most: 3, Classes: 2}, api.Shape{Most: 4, Classes: 4}, none()}, {api.Shape{Least: -3, Most: 300, Classes: -1}, api.Shape{Least: -7, Most: 201, Classes: 111}, full()},
		{api.Shape{Most: 9, Classes: 8, Begin: "ab"}, api.Shape{Most: 3, Classes: 8, End: "ba"}, api.Shape{Least: 2, Most: 3, Classes: 8, Begin: "ab", End: "ba"}}, {api.Shape{Most: 9, Classes: 8, Begin: "ab"}, api.Shape{Most: 2, Classes: 8, End: "ba"}, none()}, {api.Shape{Most: 9, Classes: 12, Begin: "ab"}, api.Shape{Most: 9, Classes: 12, End: "B"}, api.Shape{Least: 2, Most: 9, Classes: 12, Begin: "ab", End: "B"}}, {api.Shape{Most: 9, Classes: 8, Begin: "ab"}, api.Shape{Most: 9, Classes: 12, End: "B"}, none()},
	} {
		if got, other := shape.Meet(c.a, c.b), shape.Meet(c.b, c.a); got != c.want || other != c.want {
			t.Errorf("Meet of %s and %s = %s, %s", show(c.a), show(c.b), show(got), show(other))
		}
	}
}

func TestExamplesOfWithin(t *testing.T) {
	big := api.Shape{Most: 9, Classes: 110, Begin: "a", End: "ba"}
	for _, c := range []struct {
		a, b api.Shape
		want bool
	}{
		{of("abba"), big, true}, {big, of("abba"), false}, {none(), none(), true}, {of("ab"), none(), false}, {none(), of("ab"), true}, {api.Shape{Least: 9, Most: 1, Begin: "x"}, of("ab"), true}, {big, full(), true}, {full(), full(), true}, {full(), big, false}, {of("aba"), api.Shape{Most: 9, Classes: 2}, false}, {of(""), full(), true}, {of(""), api.Shape{}, true}, {of(""), api.Shape{Least: 1, Most: 2, Classes: 8}, false},
		{big, api.Shape{Most: 9, Classes: 110}, true}, {big, api.Shape{Most: 8, Classes: 110}, false}, {big, api.Shape{Least: 2, Most: 9, Classes: 110}, true}, {big, api.Shape{Least: 3, Most: 9, Classes: 110}, false}, {big, api.Shape{Most: 9, Classes: 108}, false}, {big, api.Shape{Most: 9, Classes: 110, Begin: "a"}, true}, {big, api.Shape{Most: 9, Classes: 110, Begin: "ab"}, false}, {big, api.Shape{Most: 9, Classes: 110, End: "a"}, true}, {big, api.Shape{Most: 9, Classes: 110, End: "aba"}, false}, {big, api.Shape{Most: 9, Classes: 110, Begin: "b"}, false}, {big, api.Shape{Most: 9, Classes: 110, End: "b"}, false},
		{api.Shape{Least: -3, Most: 300, Classes: -1}, full(), true}, {full(), api.Shape{Least: -3, Most: 300, Classes: -1}, true}, {full(), api.Shape{Least: math.MinInt, Most: math.MaxInt, Classes: 111}, true}, {api.Shape{Most: 9, Classes: 25}, api.Shape{Most: 9, Classes: 8}, true}, {of("ab"), api.Shape{Most: 1, Classes: 8, Begin: "ab"}, false}, {of("ab"), api.Shape{Least: 2, Most: 2, Classes: 8, Begin: "a", End: "b"}, true}, {api.Shape{Least: 2, Most: 2, Classes: 8, Begin: "a", End: "b"}, of("ab"), false}, {api.Shape{Least: 2, Most: 2, Classes: 8, Begin: "ab"}, of("ab"), false},
	} {
		if shape.Within(c.a, c.b) != c.want {
			t.Errorf("Within(%s, %s) is %t", show(c.a), show(c.b), !c.want)
		}
	}
}

// TestJoinOfTexts has all pairs of small texts, and their common ends.
func TestJoinOfTexts(t *testing.T) {
	texts := smallTexts("ab", 5)
	for _, x := range texts {
		for _, y := range texts {
			want := api.Shape{Least: min(len(x), len(y)), Most: max(len(x), len(y)), Begin: beginOfBoth(x, y), End: endOfBoth(x, y)}
			if x != "" || y != "" {
				want.Classes = 8
			}
			if got := shape.Join(of(x), of(y)); got != want {
				t.Fatalf("Join of %q and %q = %s", x, y, show(got))
			}
		}
	}
}

// TestSetsOfSmallShapes looks for common texts among all that there could be.
func TestSetsOfSmallShapes(t *testing.T) {
	texts := smallTexts("abA", 4)
	all := smallShapes()
	in := make([][]bool, len(all))
	wanted := make([]api.Shape, len(all))
	for i, a := range all {
		in[i] = make([]bool, len(texts))
		wanted[i] = none()
		for k, text := range texts {
			in[i][k] = contains(a, text)
			if in[i][k] {
				least, greatest, own := facts(a)
				wanted[i] = api.Shape{Least: least, Most: greatest, Classes: own, Begin: a.Begin, End: a.End}
			}
		}
	}
	for i, a := range all {
		for k, b := range all {
			want := none()
			for number := range texts {
				if in[i][number] && in[k][number] {
					x, y := wanted[i], wanted[k]
					want = api.Shape{Least: max(x.Least, y.Least), Most: min(x.Most, y.Most), Classes: x.Classes & y.Classes, Begin: longest(x.Begin, y.Begin), End: longest(x.End, y.End)}
					break
				}
			}
			if got := shape.Meet(a, b); got != want {
				t.Fatalf("Meet(%v, %v) = %v, not %v", a, b, got, want)
			}
		}
	}
}

func TestSetsOfSamples(t *testing.T) {
	s := &samples{state: 10}
	withCommon, withinOther := 0, 0
	const tries = 15000
	for range tries {
		a, b := s.pair()
		if s.below(5) == 0 {
			b = s.change(a)
		}
		common, within := checkSets(t, a, b)
		if common {
			withCommon++
		}
		if within && !isEmpty(a) {
			withinOther++
		}
	}
	if withCommon < tries/10 || withCommon > tries*9/10 || withinOther < tries/20 || withinOther > tries*9/10 {
		t.Errorf("of %d pairs %d have common texts, %d are within each other", tries, withCommon, withinOther)
	}
}

// TestSetsOfAllForms has each pair of some shapes, of which many are extreme.
func TestSetsOfAllForms(t *testing.T) {
	l := someShapes(60, 11)
	for _, a := range l {
		for _, b := range l {
			checkSets(t, a, b)
		}
	}
}
