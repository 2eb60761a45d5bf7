package shape_test

import (
	"slices"
	"strings"
	"testing"

	"concord/api"
	"concord/pattern"
	"concord/shape"
)

// P8.9: the consequences, with the package's own Contains and pattern.Matches alone.

// someTexts returns texts of either shape, their ends, and others.
func (s *samples) someTexts(a, b api.Shape) []string {
	return append(slices.Concat(s.textsIn(a), s.textsIn(b), commonTexts(a, b)), s.text(s.length()), a.Begin, a.End, b.Begin, b.End)
}

func TestTextsOfMeetAndJoin(t *testing.T) {
	s := &samples{state: 40}
	both, one, neither := 0, 0, 0
	const tries = 10000
	for range tries {
		a, b := s.pair()
		met, joined := shape.Meet(a, b), shape.Join(a, b)
		for _, text := range s.someTexts(a, b) {
			inA, inB := shape.Contains(a, text), shape.Contains(b, text)
			if shape.Contains(met, text) != (inA && inB) || (inA || inB) && !shape.Contains(joined, text) {
				t.Fatalf("%s and %s: %q", show(a), show(b), text)
			}
			switch {
			case inA && inB:
				both++
			case inA || inB:
				one++
			default:
				neither++
			}
		}
	}
	if both < tries || one < tries || neither < tries {
		t.Errorf("%d texts in both, %d in one, %d in none", both, one, neither)
	}
}

// TestTextsWithin has shapes of which the one is within the other: changed ones, their Meet, and their Join.
func TestTextsWithin(t *testing.T) {
	s := &samples{state: 41}
	compared, different := 0, 0
	const tries = 10000
	for range tries {
		a, b := s.pair()
		if !shape.Within(a, shape.Join(a, b)) || !shape.Within(b, shape.Join(a, b)) || !shape.Within(shape.Meet(a, b), a) || !shape.Within(shape.Meet(a, b), b) || !shape.Within(a, a) || !shape.Within(a, shape.Full()) || !shape.Within(none(), a) {
			t.Fatalf("%s and %s", show(a), show(b))
		}
		for _, wide := range []api.Shape{b, s.change(a), shape.Join(a, b), shape.Meet(a, b)} {
			if !shape.Within(a, wide) {
				continue
			}
			for _, text := range append(s.textsIn(a), commonTexts(a)...) {
				if compared++; !shape.Contains(wide, text) {
					t.Fatalf("%s is within %s, but %q is not", show(a), show(wide), text)
				}
			}
			if a != wide && !shape.Empty(a) {
				different++
			}
		}
	}
	if compared < tries || different < tries/4 {
		t.Errorf("%d texts of %d pairs", compared, different)
	}
}

// TestTextsOfSmallShapesWithin has all texts of all small shapes.
func TestTextsOfSmallShapesWithin(t *testing.T) {
	texts := smallTexts("abA", 4)
	all := smallShapes()
	in := make([][]int, len(all))
	for i, a := range all {
		for number, text := range texts {
			if shape.Contains(a, text) {
				in[i] = append(in[i], number)
			}
		}
	}
	for i, a := range all {
		for k, b := range all {
			if !shape.Within(a, b) {
				continue
			}
			for _, number := range in[i] {
				if _, ok := slices.BinarySearch(in[k], number); !ok {
					t.Fatalf("%v is within %v, but %q is not", a, b, texts[number])
				}
			}
		}
	}
}

func TestTextsOfConcat(t *testing.T) {
	s := &samples{state: 42}
	compared := 0
	const tries = 10000
	for range tries {
		a, b := s.pair()
		all := shape.Concat(a, b)
		for _, first := range append(s.textsIn(a), a.Begin) {
			for _, second := range append(s.textsIn(b), b.End) {
				if !shape.Contains(a, first) || !shape.Contains(b, second) || len(first)+len(second) > 200 {
					continue
				}
				if compared++; !shape.Contains(all, first+second) {
					t.Fatalf("Concat(%s, %s) = %s does not contain %q and %q", show(a), show(b), show(all), first, second)
				}
			}
		}
	}
	if compared < 3*tries {
		t.Errorf("%d texts", compared)
	}
}

func TestPartsOfTexts(t *testing.T) {
	s := &samples{state: 43}
	compared := 0
	const tries = 3000
	for range tries {
		a := s.shape(s.text(s.length()))
		parts := shape.Part(a)
		for _, text := range s.textsIn(a) {
			for from := range len(text) + 1 {
				// All parts of short texts, and some of long ones.
				for to := from; to <= len(text); to += 1 + len(text)/20 {
					if compared++; !shape.Contains(parts, text[from:to]) {
						t.Fatalf("Part(%s) = %s does not contain %q", show(a), show(parts), text[from:to])
					}
				}
			}
			if !shape.Contains(parts, text) {
				t.Fatalf("Part(%s) does not contain %q", show(a), text)
			}
		}
	}
	if compared < 20*tries {
		t.Errorf("%d parts", compared)
	}
}

func TestTextsOfUpperAndLower(t *testing.T) {
	s := &samples{state: 44}
	compared := 0
	const tries = 10000
	for range tries {
		a := s.shape(s.text(s.length()))
		upper, lower := shape.Upper(a), shape.Lower(a)
		for _, text := range s.textsIn(a) {
			if compared++; !shape.Contains(upper, strings.ToUpper(text)) || !shape.Contains(lower, strings.ToLower(text)) {
				t.Fatalf("Upper(%s) = %s, Lower %s: %q", show(a), show(upper), show(lower), text)
			}
		}
	}
	if compared < tries {
		t.Errorf("%d texts", compared)
	}
}

// matching returns a string of parts that the pieces of a right pattern match.
func (s *samples) matching(p []api.Piece) string {
	var text strings.Builder
	for _, piece := range p {
		text.WriteString(piece.Text)
		classes := []string{"", "09", "AZ", "az", "azAZ", " ", "-~!", "a0Z -"}[piece.Class]
		length := piece.Least
		if piece.Most > piece.Least && s.below(2) == 0 {
			length += s.below(piece.Most - piece.Least + 1)
		}
		for range length {
			text.WriteByte(classes[s.below(len(classes))])
		}
	}
	return text.String()
}

func TestTextsOfPatterns(t *testing.T) {
	s := &samples{state: 45}
	matched := 0
	const tries = 10000
	for range tries {
		p := s.pattern(5)
		if !isRight(p) {
			continue
		}
		a := shape.Pattern(p)
		for range 4 {
			text := s.matching(p)
			if !pattern.Matches(p, text) {
				continue
			}
			if matched++; !shape.Contains(a, text) {
				t.Fatalf("Pattern(%v) = %s does not contain %q", p, show(a), text)
			}
		}
	}
	if matched < tries {
		t.Errorf("%d texts", matched)
	}
}

func TestOfContainsItsTextAlone(t *testing.T) {
	texts := append(smallTexts("aA1-", 4), "ab", "ba", "a a", " ", "  ", "")
	for _, text := range texts {
		a := shape.Of(text)
		for _, other := range texts {
			if shape.Contains(a, other) != (text == other) {
				t.Fatalf("Of(%q) and %q", text, other)
			}
		}
	}
	s := &samples{state: 46}
	for range 5000 {
		text := s.text(s.length())
		for _, other := range []string{s.text(len(text)), text + s.text(1), s.text(1) + text, text[:len(text)/2], strings.ToUpper(text), strings.ToLower(text), text} {
			if shape.Contains(shape.Of(text), other) != (text == other) {
				t.Fatalf("Of(%q) and %q", text, other)
			}
		}
	}
}
