package shape_test

import (
	"math"
	"strings"
	"testing"

	"concord/api"
	"concord/shape"
)

// P8.1: Full, Of, Empty, Contains.

func TestFull(t *testing.T) {
	if a := shape.Full(); a != full() || shape.Empty(a) {
		t.Errorf("Full() = %v", a)
	}
	s := &samples{state: 1}
	for range 2000 {
		if text := s.text(s.below(201)); !shape.Contains(shape.Full(), text) {
			t.Errorf("Full does not contain %q", text)
		}
	}
	for _, other := range otherStrings() {
		if shape.Contains(shape.Full(), other) {
			t.Errorf("Full contains %.50q", other)
		}
	}
}

func TestExamplesOfOf(t *testing.T) {
	for s, want := range map[string]api.Shape{
		"": {}, "a1": {Least: 2, Most: 2, Classes: 10, Begin: "a1", End: "a1"}, "A": {Least: 1, Most: 1, Classes: 4, Begin: "A", End: "A"}, " ": {Least: 1, Most: 1, Classes: 32, Begin: " ", End: " "}, "-~!": {Least: 3, Most: 3, Classes: 64, Begin: "-~!", End: "-~!"},
		"zZ9 @": {Least: 5, Most: 5, Classes: 110, Begin: "zZ9 @", End: "zZ9 @"}, strings.Repeat("x", 200): {Least: 200, Most: 200, Classes: 8, Begin: strings.Repeat("x", 200), End: strings.Repeat("x", 200)}, strings.Repeat("x", 201): none(), "x\n": none(), "\x7f": none(), "é": none(), "\x00": none(),
	} {
		if got := shape.Of(s); got != want {
			t.Errorf("Of(%q) = %v", s, got)
		}
	}
}

// TestOfEachByte has each byte alone, and between others.
func TestOfEachByte(t *testing.T) {
	for b := range 256 {
		for _, s := range []string{string([]byte{byte(b)}), "a" + string([]byte{byte(b)}) + "-"} {
			want := none()
			if _, ok := bitsOf(s); ok {
				want = of(s)
			}
			if got := shape.Of(s); got != want {
				t.Errorf("Of(%q) = %v", s, got)
			}
		}
	}
}

func TestOfSamples(t *testing.T) {
	s := &samples{state: 2}
	for range 5000 {
		text := s.text(s.length())
		if got := shape.Of(text); got != of(text) || shape.Empty(got) {
			t.Fatalf("Of(%q) = %v", text, got)
		}
	}
	for _, other := range append(otherStrings(), strings.Repeat("a", 1<<20)) {
		if got := shape.Of(other); got != none() || !shape.Empty(got) {
			t.Errorf("Of(%.50q) = %v", other, got)
		}
	}
}

// repeat returns a shape with ends of one character.
func repeat(begin, end, most int) api.Shape {
	return api.Shape{Most: most, Classes: 8, Begin: strings.Repeat("a", begin), End: strings.Repeat("a", end)}
}

func TestExamplesOfEmpty(t *testing.T) {
	for _, c := range []struct {
		a    api.Shape
		want bool
	}{
		{none(), true}, {full(), false}, {api.Shape{}, false}, {api.Shape{Most: -1}, true}, {api.Shape{Least: 1, Most: 1}, true}, {api.Shape{Most: 1}, false}, {api.Shape{Least: 1, Most: 1, Classes: 8}, false}, {api.Shape{Least: 1, Most: 1, Classes: ^110}, true}, {api.Shape{Least: 2, Most: 1, Classes: 8}, true},
		{api.Shape{Most: 1, Classes: 110, Begin: "ab"}, true}, {api.Shape{Most: 1, Classes: 110, End: "ab"}, true}, {api.Shape{Most: 2, Classes: 110, End: "ab"}, false}, {api.Shape{Most: 3, Classes: 110, Begin: "ab", End: "ba"}, false}, {api.Shape{Most: 2, Classes: 110, Begin: "ab", End: "ba"}, true}, {api.Shape{Most: 2, Classes: 110, Begin: "ab", End: "ab"}, false}, {api.Shape{Least: 3, Most: 3, Classes: 110, Begin: "ab", End: "ab"}, true}, {api.Shape{Least: 4, Most: 4, Classes: 110, Begin: "ab", End: "ab"}, false},
		{api.Shape{Least: 4, Most: 4, Classes: 8, Begin: "aba", End: "aba"}, true}, {api.Shape{Least: 5, Most: 5, Classes: 8, Begin: "aba", End: "aba"}, false}, {api.Shape{Most: 9, Classes: 8, Begin: "a", End: "B"}, true}, {api.Shape{Most: 9, Classes: 4, Begin: "a", End: "B"}, true}, {api.Shape{Most: 9, Classes: 12, Begin: "a", End: "B"}, false}, {api.Shape{Most: 9, Classes: 1, Begin: "\x01"}, true}, {api.Shape{Most: 9, Classes: -1, Begin: "\x7f"}, true}, {api.Shape{Most: 9, Classes: -1, End: "é"}, true},
		{api.Shape{Least: 200, Most: 200, Classes: 2}, false}, {api.Shape{Least: 201, Most: 300, Classes: 110}, true}, {api.Shape{Least: 200, Most: 300, Classes: 110}, false}, {api.Shape{Least: math.MinInt, Most: math.MaxInt}, false}, {api.Shape{Least: math.MaxInt, Most: math.MinInt, Classes: 110}, true}, {api.Shape{Least: math.MinInt, Most: math.MinInt, Classes: 110}, true}, {api.Shape{Least: math.MaxInt, Most: math.MaxInt, Classes: 110}, true},
		{repeat(200, 200, 200), false}, {repeat(200, 200, 400), false}, {repeat(201, 0, 400), true}, {repeat(0, 201, 400), true}, {repeat(200, 1, 199), true}, {repeat(150, 150, 149), true}, {repeat(150, 150, 150), false}, {repeat(1<<20, 1<<20, math.MaxInt), true},
	} {
		if shape.Empty(c.a) != c.want {
			t.Errorf("Empty(%s) is %t", show(c.a), !c.want)
		}
	}
}

// TestEmptySmallShapes looks for a text in each shape among all that it could contain.
func TestEmptySmallShapes(t *testing.T) {
	texts := smallTexts("abA", 4)
	empty := 0
	for _, a := range smallShapes() {
		want := true
		for _, text := range texts {
			want = want && !contains(a, text)
		}
		if shape.Empty(a) != want || isEmpty(a) != want {
			t.Fatalf("Empty(%v) is %t", a, !want)
		}
		if want {
			empty++
		}
	}
	if all := len(smallShapes()); empty < all/4 || empty > all*3/4 {
		t.Errorf("%d of %d shapes are empty", empty, all)
	}
}

// TestEmptyOverlaps has ends that fit with some overlaps only, for each length alone.
func TestEmptyOverlaps(t *testing.T) {
	ends := smallTexts("ab", 5)
	for _, begin := range ends {
		for _, end := range ends {
			for length := range 12 {
				for _, classes := range []int{8, 110} {
					a := api.Shape{Least: length, Most: length, Classes: classes, Begin: begin, End: end}
					if want := isEmpty(a); shape.Empty(a) != want {
						t.Fatalf("Empty(%v) is %t", a, !want)
					}
				}
			}
		}
	}
}

func TestEmptyOfSamples(t *testing.T) {
	empty := 0
	all := someShapes(20000, 3)
	for _, a := range all {
		want := isEmpty(a)
		if shape.Empty(a) != want {
			t.Fatalf("Empty(%s) is %t", show(a), !want)
		}
		if want {
			empty++
		}
	}
	if empty < len(all)/10 || empty > len(all)*9/10 {
		t.Errorf("%d of %d shapes are empty", empty, len(all))
	}
}

func TestExamplesOfContains(t *testing.T) {
	a := api.Shape{Least: 2, Most: 5, Classes: 10, Begin: "a", End: "1"}
	for s, want := range map[string]bool{"a1": true, "ab1": true, "a11": true, "aaaa1": true, "a": false, "1": false, "": false, "a-1": false, "aA1": false, "a 1": false, "aaaaa1": false, "b1": false, "a1b": false, "A1": false} {
		if shape.Contains(a, s) != want {
			t.Errorf("Contains(%q) is %t", s, !want)
		}
	}
	overlapping := api.Shape{Most: 9, Classes: 8, Begin: "aba", End: "ba"}
	for s, want := range map[string]bool{"aba": true, "ababa": true, "abaaba": true, "ab": false, "ba": false, "abab": false, "abba": false, "abacba": true} {
		if shape.Contains(overlapping, s) != want {
			t.Errorf("Contains(%q) is %t", s, !want)
		}
	}
	for _, a := range []api.Shape{none(), {Least: 9, Most: 1, Classes: 110}, {Most: -1}} {
		for _, s := range []string{"", "a", "aaaa"} {
			if shape.Contains(a, s) {
				t.Errorf("Contains(%v, %q)", a, s)
			}
		}
	}
}

// TestContainsNoOtherStrings has shapes that the strings would be in, if they were texts.
func TestContainsNoOtherStrings(t *testing.T) {
	for _, other := range append(otherStrings(), strings.Repeat("a", 1<<20)) {
		for _, a := range []api.Shape{{Least: math.MinInt, Most: math.MaxInt, Classes: -1}, {Least: len(other), Most: len(other), Classes: math.MaxInt, Begin: other, End: other}, {Most: len(other), Classes: -1, Begin: other[:1]}} {
			if shape.Contains(a, other) {
				t.Errorf("Contains(%s, %.50q)", show(a), other)
			}
		}
	}
}

func TestContainsOfSmallShapes(t *testing.T) {
	texts := append(smallTexts("abA", 4), "1", "a1", "a ba", "aba-", "aaaaa")
	for _, a := range smallShapes() {
		for _, text := range texts {
			if want := contains(a, text); shape.Contains(a, text) != want {
				t.Fatalf("Contains(%v, %q) is %t", a, text, !want)
			}
		}
	}
}

func TestContainsOfSamples(t *testing.T) {
	s := &samples{state: 4}
	contained := 0
	const tries = 5000
	for range tries {
		a, b := s.pair()
		for _, text := range append(append(s.textsIn(a), s.textsIn(b)...), s.text(s.length()), a.Begin, a.End, a.Begin+a.End, element(s, otherStrings())) {
			want := contains(a, text)
			if shape.Contains(a, text) != want {
				t.Fatalf("Contains(%s, %.50q) is %t", show(a), text, !want)
			}
			if want {
				contained++
			}
		}
	}
	if contained < tries || contained > tries*8 {
		t.Errorf("%d texts were contained", contained)
	}
}

// TestContainsAtTheLimits has lengths next to those of a shape.
func TestContainsAtTheLimits(t *testing.T) {
	for _, lengths := range [][2]int{{0, 0}, {0, 1}, {1, 1}, {3, 5}, {198, 199}, {199, 200}, {200, 200}, {200, 201}, {201, 300}, {-5, 2}, {math.MinInt, math.MaxInt}} {
		a := api.Shape{Least: lengths[0], Most: lengths[1], Classes: 110}
		for length := range 203 {
			want := lengths[0] <= length && length <= lengths[1] && length <= 200
			if shape.Contains(a, strings.Repeat("x", length)) != want {
				t.Errorf("Contains(%v, a text of length %d) is %t", a, length, !want)
			}
		}
	}
}
