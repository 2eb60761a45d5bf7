package shape_test

import (
	"fmt"
	"math"
	"slices"
	"strings"
	"testing"

	"concord/api"
	"concord/pattern"
	"concord/shape"
)

// P8.7: Pattern. P8.8: Text.

// parsed returns the pattern with a written form, which must be right.
func parsed(t *testing.T, s string) []api.Piece {
	t.Helper()
	p, _, e := pattern.Parse(s)
	if e != api.OK {
		t.Fatalf("Parse(%q) has the error %d", s, e)
	}
	return p
}

// isRight reports whether a pattern is right: whether its written form is the form of these pieces.
func isRight(p []api.Piece) bool {
	back, _, e := pattern.Parse(pattern.Print(p))
	return e == api.OK && slices.Equal(back, p)
}

// wantedPattern returns what Pattern has to return.
func wantedPattern(p []api.Piece) api.Shape {
	if !isRight(p) {
		return none()
	}
	var want api.Shape
	for i, piece := range p {
		bits, _ := bitsOf(piece.Text)
		want.Classes |= bits | []int{0, 2, 4, 8, 12, 32, 64, 110}[piece.Class]
		want.Least += len(piece.Text) + piece.Least
		want.Most = min(200, want.Most+len(piece.Text)+piece.Most)
		if i == 0 {
			want.Begin = piece.Text
		}
		if i == len(p)-1 {
			want.End = piece.Text
		}
	}
	if want.Least > 200 {
		return none()
	}
	return want
}

// checkPattern compares the result of Pattern, and returns it.
func checkPattern(t *testing.T, p []api.Piece) api.Shape {
	t.Helper()
	got, want := shape.Pattern(p), wantedPattern(p)
	if got != want {
		t.Fatalf("Pattern(%.500v) = %s, not %s", p, show(got), show(want))
	}
	return got
}

func TestExamplesOfPattern(t *testing.T) {
	for s, want := range map[string]api.Shape{
		`\u\l*-`: {Least: 2, Most: 200, Classes: 76, End: "-"}, `ab\d{2}`: {Least: 4, Most: 4, Classes: 10, Begin: "ab"}, "a b": of("a b"), "": {}, `\.{3}\a`: {Least: 4, Most: 4, Classes: 110}, `\d{0,3}\s+`: {Least: 1, Most: 200, Classes: 34}, `x\d*y`: {Least: 2, Most: 200, Classes: 10, Begin: "x", End: "y"}, `\d-\d`: {Least: 3, Most: 3, Classes: 66}, `\d\+\d x\d`: {Least: 6, Most: 6, Classes: 106}, `\\\{\}\+\*`: of(`\{}+*`),
		`\d`: {Least: 1, Most: 1, Classes: 2}, `\u`: {Least: 1, Most: 1, Classes: 4}, `\l`: {Least: 1, Most: 1, Classes: 8}, `\a`: {Least: 1, Most: 1, Classes: 12}, `\s`: {Least: 1, Most: 1, Classes: 32}, `\o`: {Least: 1, Most: 1, Classes: 64}, `\.`: {Least: 1, Most: 1, Classes: 110}, `\.*`: full(), `\.+`: {Least: 1, Most: 200, Classes: 110}, `\a{0,1}`: {Most: 1, Classes: 12}, `A\l`: {Least: 2, Most: 2, Classes: 12, Begin: "A"}, `A\dA`: {Least: 3, Most: 3, Classes: 6, Begin: "A", End: "A"},
		`\d{200}`: {Least: 200, Most: 200, Classes: 2}, `\d{199}\l`: {Least: 200, Most: 200, Classes: 10}, `\d{200}\l{0,1}`: {Least: 200, Most: 200, Classes: 10}, `\d{199}xx`: none(), `\d{200}x`: none(), `\d{100}\l{100,150}`: {Least: 200, Most: 200, Classes: 10}, `\d{100}\l{101}`: none(), `\d{150,200}\l{51,60}`: none(), `\d{0,150}\l{0,49}`: {Most: 199, Classes: 10}, `\d{0,150}\l{0,51}`: {Most: 200, Classes: 10}, `\d{199}-\d{0,9}`: {Least: 200, Most: 200, Classes: 66}, `\d{200}\d{200}\d{200}\.`: none(),
	} {
		p := parsed(t, s)
		if got := checkPattern(t, p); got != want {
			t.Errorf("Pattern(%q) = %s", s, show(got))
		}
	}
}

// wrongPatterns returns patterns that are not right, each for one reason only.
func wrongPatterns() [][]api.Piece {
	run, text := api.Piece{Class: 1, Least: 1, Most: 1}, api.Piece{Text: "a"}
	l := [][]api.Piece{
		{{}}, {run, {}}, {{}, run}, {text, text}, {run, text, text, run}, {{Text: "a", Least: 1}}, {{Text: "a", Most: 1}}, {{Text: "a", Least: 1, Most: 1}}, {{Text: "a", Least: -1}}, {{Class: 1}}, {{Class: 7, Least: 2, Most: 1}}, {{Class: 1, Least: -1, Most: 1}}, {{Class: 1, Least: 0, Most: 201}}, {{Class: 1, Least: 201, Most: 201}}, {{Class: 1, Most: math.MaxInt}}, {{Class: 1, Least: math.MinInt, Most: math.MaxInt}}, {{Class: 1, Least: -2, Most: -1}},
		{{Class: 1, Least: 1, Most: 1, Text: "a"}}, {{Class: 8, Most: 1}}, {{Class: -1, Most: 1}}, {{Class: 9}}, {{Class: math.MaxInt, Most: 1}}, {{Class: math.MinInt, Most: 1}}, {{Class: 64, Most: 1}}, {{Class: -1, Text: "a"}}, {{Class: 1 << 32, Text: "a"}}, {{Text: strings.Repeat("a", 61)}}, {{Text: strings.Repeat(`\`, 31)}}, {{Text: strings.Repeat("a", 1<<20)}}, {{Text: "é"}}, {{Text: "a\n"}}, {{Text: strings.Repeat("a", 59)}, run}, slices.Repeat([]api.Piece{run}, 31), slices.Repeat([]api.Piece{run}, 1<<16), slices.Repeat([]api.Piece{{Class: 2, Most: 200}}, 21),
	}
	for b := range 256 {
		if bitOf[b] == 0 {
			l = append(l, []api.Piece{run, {Text: "x" + string([]byte{byte(b)}) + "y"}})
		}
	}
	return l
}

func TestPatternsThatAreNotRight(t *testing.T) {
	for _, p := range wrongPatterns() {
		if got := checkPattern(t, p); got != none() {
			t.Errorf("Pattern(%.100v) = %s", p, show(got))
		}
	}
}

// pattern returns a pattern with at most so many pieces, which is right more often than not.
func (s *samples) pattern(most int) []api.Piece {
	var p []api.Piece
	for range s.below(most + 1) {
		piece := api.Piece{Text: s.text(1 + s.below(4))}
		if s.below(3) > 0 {
			least, more := s.below(4), s.below(4)
			if s.below(5) == 0 {
				least = element(s, []int{s.below(201), 50, 66, 100, 150, 199, 200})
				more = s.below(201 - least)
			}
			piece = api.Piece{Class: 1 + s.below(7), Least: least, Most: max(1, least+more)}
		}
		if last := len(p) - 1; last >= 0 && p[last].Class == 0 && piece.Class == 0 && s.below(20) > 0 {
			p[last].Text += piece.Text
			continue
		}
		p = append(p, piece)
	}
	return p
}

func TestPatternOfSamples(t *testing.T) {
	s := &samples{state: 30}
	wrong := wrongPatterns()
	empty, withEnds := 0, 0
	const tries = 20000
	for range tries {
		p := s.pattern(6)
		if len(p) > 0 && s.below(20) == 0 {
			p[s.below(len(p))] = element(s, wrong)[0]
		}
		got := checkPattern(t, p)
		if got == none() {
			empty++
		}
		if got.Begin+got.End != "" {
			withEnds++
		}
	}
	if empty < tries/20 || empty > tries/2 || withEnds < tries/10 || withEnds > tries*9/10 {
		t.Errorf("of %d shapes %d are empty, %d have ends", tries, empty, withEnds)
	}
}

// TestPatternsOfAllClasses has runs of each two classes, with all small counts.
func TestPatternsOfAllClasses(t *testing.T) {
	for class := 1; class <= 7; class++ {
		for other := 1; other <= 7; other++ {
			for least := range 4 {
				for most := range 4 {
					checkPattern(t, []api.Piece{{Class: class, Least: least, Most: most}, {Text: "-A"}, {Class: other, Least: 1, Most: 1 + most}})
				}
			}
		}
	}
}

func TestExamplesOfText(t *testing.T) {
	for _, c := range []struct {
		a    api.Shape
		want string
	}{
		{of("a1"), "2 2 10 2:a1 2:a1"}, {none(), "1 0 0 0: 0:"}, {api.Shape{}, "0 0 0 0: 0:"}, {full(), "0 200 110 0: 0:"}, {api.Shape{Least: 3, Most: 12, Classes: 76, Begin: "ab", End: "-:0"}, "3 12 76 2:ab 3:-:0"}, {api.Shape{Most: 9, Classes: 32, Begin: " "}, "0 9 32 1:  0:"}, {api.Shape{Least: 9, Most: 1, Classes: 1000, End: "0:"}, "9 1 1000 0: 2:0:"},
		{api.Shape{Least: -1, Most: -20, Classes: -300, Begin: "\n", End: "é"}, "-1 -20 -300 1:\n 2:é"}, {api.Shape{Least: math.MinInt, Most: math.MaxInt, Classes: -1}, "-9223372036854775808 9223372036854775807 -1 0: 0:"}, {api.Shape{Begin: "aaaaaaaaaa", End: strings.Repeat("b", 201)}, "0 0 0 10:aaaaaaaaaa 201:" + strings.Repeat("b", 201)},
	} {
		if got := shape.Text(c.a); got != c.want {
			t.Errorf("Text(%s) = %q", show(c.a), got)
		}
	}
}

func TestTextOfSamples(t *testing.T) {
	texts := map[string]api.Shape{}
	for _, a := range append(someShapes(10000, 31), smallShapes()...) {
		got := shape.Text(a)
		if want := fmt.Sprintf("%d %d %d %d:%s %d:%s", a.Least, a.Most, a.Classes, len(a.Begin), a.Begin, len(a.End), a.End); got != want {
			t.Fatalf("Text(%s) = %q", show(a), got)
		}
		if other, ok := texts[got]; ok && other != a {
			t.Fatalf("%s and %s have the same text", show(a), show(other))
		}
		texts[got] = a
	}
}
