package pattern_test

import (
	"math"
	"strings"
	"testing"

	"concord/api"
	"concord/pattern"
)

// P5.4: Find, Count.

// checkFinds compares all finds, and the numbers next to theirs, with those of a regular expression.
func checkFinds(t *testing.T, p []api.Piece, x expression, s string) int {
	t.Helper()
	want := x.finds(s)
	if got := pattern.Count(p, s); got != len(want) {
		t.Fatalf("Count(%v, %q) = %d, not %d", p, s, got, len(want))
	}
	for i, place := range want {
		if from, to, ok := pattern.Find(p, s, i+1); from != place[0] || to != place[1] || !ok {
			t.Fatalf("Find(%v, %q, %d) = %d, %d, %t, not %v", p, s, i+1, from, to, ok, place)
		}
	}
	for _, nth := range []int{len(want) + 1, len(want) + 2, 0, -1} {
		checkNoFind(t, p, s, nth)
	}
	return len(want)
}

// checkNoFind reports a find.
func checkNoFind(t *testing.T, p []api.Piece, s string, nth int) {
	t.Helper()
	if from, to, ok := pattern.Find(p, s, nth); from != 0 || to != 0 || ok {
		t.Fatalf("Find(%.100v, %.100q, %d) = %d, %d, %t", p, s, nth, from, to, ok)
	}
}

func TestExamplesOfFind(t *testing.T) {
	for _, c := range []struct {
		p, s string
		want [][2]int
	}{
		{`\d+`, "a12b345", [][2]int{{1, 3}, {4, 7}}}, {`\d+\l*`, "-12x-345", [][2]int{{1, 4}, {5, 8}}}, {`\d`, "12", [][2]int{{0, 1}, {1, 2}}}, {`\d{2}`, "12345", [][2]int{{0, 2}, {2, 4}}}, {`\d{1,2}`, "12345", [][2]int{{0, 2}, {2, 4}, {4, 5}}},
		{`\l*`, "1a2", [][2]int{{1, 2}}}, {`\l*`, "123", nil}, {`\l*`, "", nil}, {"", "abc", nil}, {"", "", nil}, {`\d*`, "12a3", [][2]int{{0, 2}, {3, 4}}}, {"aa", "aaaaa", [][2]int{{0, 2}, {2, 4}}}, {"aba", "ababa", [][2]int{{0, 3}}}, {"ab", "ba", nil}, {"ab", "a", nil}, {" ", "a b c", [][2]int{{1, 2}, {3, 4}}},
		{`\d*\l`, "12 3a", [][2]int{{3, 5}}}, {`\l{0,2}\d{0,1}`, "abc1", [][2]int{{0, 2}, {2, 4}}}, {`a\.*b`, "abab", [][2]int{{0, 4}}}, {`a\l{0,1}b`, "abab", [][2]int{{0, 2}, {2, 4}}}, {`\.*`, "any text", [][2]int{{0, 8}}}, {`\a\d{0,3}x`, "a1b12x", [][2]int{{2, 6}}},
	} {
		p := parsed(t, c.p)
		for i, place := range c.want {
			if from, to, ok := pattern.Find(p, c.s, i+1); from != place[0] || to != place[1] || !ok {
				t.Errorf("Find(%q, %q, %d) = %d, %d, %t, not %v", c.p, c.s, i+1, from, to, ok, place)
			}
		}
		if got := checkFinds(t, p, compiled(p), c.s); got != len(c.want) {
			t.Errorf("Count(%q, %q) = %d, not %d", c.p, c.s, got, len(c.want))
		}
	}
}

// TestOtherNumbersOfFinds has numbers that are no number of a find.
func TestOtherNumbersOfFinds(t *testing.T) {
	for _, s := range []string{"", "a", "12", strings.Repeat("1", 200), strings.Repeat("1 ", 100)} {
		for _, form := range []string{"", `\d`, `\d+`, `\.*`} {
			for _, nth := range []int{0, -1, -2, 201, 1 << 31, 1 << 32, 1<<32 + 1, -1 << 32, math.MaxInt, math.MinInt, math.MinInt + 1} {
				checkNoFind(t, parsed(t, form), s, nth)
			}
		}
	}
}

func TestFindsInStringsThatAreNoTexts(t *testing.T) {
	for _, s := range []string{"a\x00", "1\x1f2", "12\x7f", "é1", "1\xff", "1\n", strings.Repeat("1", 201), strings.Repeat("a ", 101), strings.Repeat("1", 1<<20)} {
		for _, form := range []string{`\d`, `\d+`, `\.`, `\.*`, "a", "1"} {
			p := parsed(t, form)
			if got := pattern.Count(p, s); got != 0 {
				t.Errorf("Count(%q, %.20q) = %d", form, s, got)
			}
			checkNoFind(t, p, s, 1)
		}
	}
}

func TestFindsOfWrongPatterns(t *testing.T) {
	for _, p := range wrongPatterns() {
		for _, s := range []string{"", "a", "aa", "1", "1aa1", "11a", strings.Repeat("a", 61), strings.Repeat("1", 200), strings.Repeat(`\`, 31)} {
			if got := pattern.Count(p, s); got != 0 {
				t.Errorf("Count(%.100v, %.20q) = %d", p, s, got)
			}
			checkNoFind(t, p, s, 1)
		}
	}
}

func TestFindsInAllSmallTexts(t *testing.T) {
	texts := smallTexts(4)
	found := 0
	for _, p := range smallPatterns() {
		x := compiled(p)
		for _, s := range texts {
			found += checkFinds(t, p, x, s)
		}
	}
	if found < 10000 {
		t.Errorf("%d finds", found)
	}
}

func TestFindsOfSamples(t *testing.T) {
	s := &samples{state: 4}
	found := 0
	const tries = 3000
	for range tries {
		p := s.pattern(5)
		x := compiled(p)
		for range 3 {
			found += checkFinds(t, p, x, s.subject(p))
		}
	}
	if found < tries {
		t.Errorf("%d finds", found)
	}
}

// TestLongFinds has the greatest numbers of finds, and long ones.
func TestLongFinds(t *testing.T) {
	for _, c := range []struct {
		p, s  string
		count int
	}{
		{`\d`, strings.Repeat("1", 200), 200}, {`\d\l{0,1}`, strings.Repeat("1a", 100), 100}, {"1", strings.Repeat("1 ", 100), 100}, {strings.Repeat(`\.*`, 20), strings.Repeat("~", 200), 1}, {strings.Repeat(`\.*`, 19) + "x", strings.Repeat("~", 199), 0}, {`\.{0,199}x`, strings.Repeat("~", 199) + "x", 1}, {`\.{0,66}`, strings.Repeat(" ", 200), 4},
	} {
		p := parsed(t, c.p)
		if got := checkFinds(t, p, compiled(p), c.s); got != c.count {
			t.Errorf("Count(%q, %q) = %d, not %d", c.p, c.s, got, c.count)
		}
	}
}
