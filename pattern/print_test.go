package pattern_test

import (
	"slices"
	"strings"
	"testing"

	"concord/api"
	"concord/pattern"
)

// P5.2: Print, and which patterns are right.

// checkPrint compares the result of Print with what it should be, and reports whether p is right.
func checkPrint(t *testing.T, p []api.Piece) bool {
	t.Helper()
	want := ""
	right := isRight(p)
	if right {
		want = form(p)
	}
	if got := pattern.Print(p); got != want {
		t.Fatalf("Print(%v) = %q, not %q", p, got, want)
	}
	return right
}

func TestExamplesOfPrint(t *testing.T) {
	for _, c := range []struct {
		p    []api.Piece
		want string
	}{
		{nil, ""}, {[]api.Piece{{Text: "ab"}}, "ab"}, {[]api.Piece{{Text: `\{}+*`}}, `\\\{\}\+\*`}, {[]api.Piece{{Text: `a.b,[(?`}}, `a.b,[(?`},
		{[]api.Piece{{Class: 1, Least: 4, Most: 4}, {Text: "-"}, {Class: 1, Least: 1, Most: 200}}, `\d{4}-\d+`},
		{[]api.Piece{{Class: 1, Least: 1, Most: 1}, {Class: 2, Least: 1, Most: 1}, {Class: 3, Least: 1, Most: 1}, {Class: 4, Least: 1, Most: 1}, {Class: 5, Least: 1, Most: 1}, {Class: 6, Least: 1, Most: 1}, {Class: 7, Least: 1, Most: 1}}, `\d\u\l\a\s\o\.`},
		{[]api.Piece{{Class: 1, Most: 200}, {Class: 1, Most: 1}, {Class: 1, Most: 199}, {Class: 1, Least: 1, Most: 199}, {Class: 1, Least: 2, Most: 200}, {Class: 1, Least: 200, Most: 200}}, `\d*\d{0,1}\d{0,199}\d{1,199}\d{2,200}\d{200}`},
	} {
		if got := pattern.Print(c.p); got != c.want {
			t.Errorf("Print(%v) = %q, not %q", c.p, got, c.want)
		}
		checkPrint(t, c.p)
	}
}

func TestPrintOfAllCounts(t *testing.T) {
	for least := -1; least <= 202; least++ {
		for most := -1; most <= 202; most++ {
			class := (least+most+2)%7 + 1
			checkPrint(t, []api.Piece{{Class: class, Least: least, Most: most}})
			checkPrint(t, []api.Piece{{Class: class, Least: 1, Most: 1}, {Text: "x"}, {Class: 8 - class, Least: least, Most: most}})
		}
	}
}

func TestPrintOfAllBytes(t *testing.T) {
	for b := range 256 {
		s := string([]byte{byte(b)})
		for _, text := range []string{s, "x" + s, s + "1", "+" + s + "*"} {
			right := checkPrint(t, []api.Piece{{Text: text}})
			if right != (b >= 32 && b <= 126) || checkPrint(t, []api.Piece{{Class: 6, Most: 3}, {Text: text}, {Class: 1, Most: 1}}) != right {
				t.Errorf("a literal %q is right: %t", text, right)
			}
		}
	}
}

func TestWrongPatterns(t *testing.T) {
	for _, p := range wrongPatterns() {
		if isRight(p) || pattern.Print(p) != "" {
			t.Errorf("Print(%.100v) = %q", p, pattern.Print(p))
		}
	}
}

// TestPrintAroundGreatestLength has patterns whose written forms have 60 bytes, and some more or less.
func TestPrintAroundGreatestLength(t *testing.T) {
	run := api.Piece{Class: 3, Least: 1, Most: 1}
	for length := range 64 {
		for _, c := range []string{"a", "+", `\`, "~"} {
			text := api.Piece{Text: strings.Repeat(c, length)}
			for _, p := range [][]api.Piece{{text}, {text, run}, {run, text}, {run, text, run}, {{Class: 3, Least: 10, Most: 100}, text}, {text, {Class: 3, Least: 5, Most: 5}}, {text, {Class: 3, Most: 200}}, slices.Repeat([]api.Piece{run}, length)} {
				if checkPrint(t, p) && len(form(p)) > 60 {
					t.Errorf("%v is right", p)
				}
			}
		}
	}
	for _, s := range []string{strings.Repeat("a", 60), strings.Repeat(`\d`, 30), strings.Repeat(`\*`, 30), strings.Repeat(`\s*`, 20), strings.Repeat(`\s{2}`, 12), strings.Repeat(`a\d`, 20), strings.Repeat(`\d{9,199}a`, 6)} {
		if got := pattern.Print(parsed(t, s)); got != s || len(s) != 60 {
			t.Errorf("%q is printed as %q", s, got)
		}
	}
}

func TestPrintOfSamples(t *testing.T) {
	s := &samples{state: 2}
	right := 0
	const tries = 60000
	for range tries {
		p := s.pattern(10)
		for range s.below(3) {
			p = s.change(p)
		}
		if slices.ContainsFunc(p, func(piece api.Piece) bool { return piece.Class < 0 || piece.Class > 7 }) {
			if got := pattern.Print(p); got != "" {
				t.Fatalf("Print(%v) = %q", p, got)
			}
			continue
		}
		if checkPrint(t, p) {
			right++
		}
	}
	if right < tries/4 || right > tries*9/10 {
		t.Errorf("%d of %d patterns were right", right, tries)
	}
}
