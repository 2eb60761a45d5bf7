package pattern_test

import (
	"strings"
	"testing"

	"concord/api"
	"concord/pattern"
)

// P5.3: Class, Matches.

func TestClass(t *testing.T) {
	of := map[byte]int{}
	for _, class := range []int{1, 2, 3, 5, 6} {
		for _, c := range membersOf(class) {
			of[byte(c)] = class
		}
	}
	if len(of) != 95 {
		t.Errorf("%d characters", len(of))
	}
	for b := range 256 {
		if got := pattern.Class(byte(b)); got != of[byte(b)] {
			t.Errorf("Class(%d) = %d, not %d", b, got, of[byte(b)])
		}
	}
}

// checkMatches compares the result of Matches with that of a regular expression.
func checkMatches(t *testing.T, p []api.Piece, x expression, s string) bool {
	t.Helper()
	want := x.matches(s)
	if got := pattern.Matches(p, s); got != want {
		t.Fatalf("Matches(%v, %q) is %t", p, s, got)
	}
	return want
}

func TestExamplesOfMatches(t *testing.T) {
	for _, c := range []struct {
		p, s string
		want bool
	}{
		{`\u\l*`, "Ab", true}, {`\u\l*`, "A", true}, {`\u\l*`, "AB", false}, {`\u\l*`, "", false}, {`\u\l*`, "Abc1", false}, {`\u\l*`, "aAb", false},
		{"", "", true}, {"", " ", false}, {"ab", "ab", true}, {"ab", "a", false}, {"ab", "abc", false}, {"ab", "aB", false}, {`\+`, "+", true}, {`\\`, `\`, true}, {`\\d`, `\d`, true}, {`\\d`, "1", false}, {`a.c`, "abc", false},
		{`\d{2,3}`, "1", false}, {`\d{2,3}`, "12", true}, {`\d{2,3}`, "123", true}, {`\d{2,3}`, "1234", false}, {`\d{0,1}`, "", true}, {`\d*`, "", true}, {`\d+`, "", false}, {`\d`, "12", false},
		{`\a+\a`, "ab", true}, {`\a+\a`, "a", false}, {`\a*\a`, "a", true}, {`\.*\d`, "1a2", true}, {`\.*\d`, "1a", false}, {`\.*1\.*`, "213", true}, {`\.{2}\.{2}`, "abc", false}, {`\l{1,3}\a{2}\d*`, "abAb", true}, {`\l{1,3}\a{2}\d*`, "aA1", false}, {`\l{1,3}\a{2}\d*`, "abA1", true}, {`\d*\d*1`, "1", true}, {`\l*ab`, "aabab", true},
		{`\s\o`, " -", true}, {`\s\o`, "- ", false}, {`\s`, "\t", false}, {`\o`, "_", true}, {`\o`, "a", false}, {`\.`, "~", true}, {`\.`, " ", true},
	} {
		p := parsed(t, c.p)
		if pattern.Matches(p, c.s) != c.want {
			t.Errorf("Matches(%q, %q) is not %t", c.p, c.s, c.want)
		}
		checkMatches(t, p, compiled(p), c.s)
	}
}

// TestClassesOfRuns has each byte for each class of a run.
func TestClassesOfRuns(t *testing.T) {
	for class := 1; class <= 7; class++ {
		p := []api.Piece{{Class: class, Least: 1, Most: 1}}
		for b := range 256 {
			s := string([]byte{byte(b)})
			if got := pattern.Matches(p, s); got != strings.Contains(membersOf(class), s) {
				t.Errorf("Matches(%v, %q) is %t", p, s, got)
			}
		}
	}
}

// TestStringsThatAreNoTexts has strings that patterns would match, if they were texts.
func TestStringsThatAreNoTexts(t *testing.T) {
	for length := 190; length <= 210; length++ {
		s := strings.Repeat("7", length)
		for _, form := range []string{`\d*`, `\.*\d*`, `\d{100,150}\d+`, `7\d+`} {
			p := parsed(t, form)
			if got := pattern.Matches(p, s); got != (length <= 200) {
				t.Errorf("Matches(%q, %d digits) is %t", form, length, got)
			}
			checkMatches(t, p, compiled(p), s)
		}
	}
	for _, s := range []string{"a\x00", "\x1f", "\x7f", "é", "\xff", "a\n", "\ta", strings.Repeat("a", 199) + "\x80", strings.Repeat("a", 1<<20)} {
		for _, form := range []string{`\.*`, `\.+`, `\a\.*`, `\o*\.*`} {
			if p := parsed(t, form); pattern.Matches(p, s) {
				t.Errorf("Matches(%q, %.20q) is true", form, s)
			}
		}
	}
}

func TestMatchesOfWrongPatterns(t *testing.T) {
	texts := []string{"", "a", "aa", "1", "1a", "aa1", "1aa1", "é", strings.Repeat("a", 61), strings.Repeat("a", 59) + "1", strings.Repeat("1", 31), strings.Repeat(`\`, 31)}
	for _, p := range wrongPatterns() {
		all := append(texts, "")
		for _, piece := range p[:min(len(p), 100)] {
			all[len(all)-1] += piece.Text
			all = append(all, piece.Text, piece.Text+"1")
		}
		for _, s := range all {
			if pattern.Matches(p, s) {
				t.Errorf("Matches(%.100v, %.100q) is true", p, s)
			}
		}
	}
}

func TestMatchesOfAllSmallTexts(t *testing.T) {
	texts := smallTexts(5)
	matched := 0
	for _, p := range smallPatterns() {
		x := compiled(p)
		for _, s := range texts {
			if checkMatches(t, p, x, s) {
				matched++
			}
		}
	}
	if matched < 10000 {
		t.Errorf("%d texts were matched", matched)
	}
}

func TestMatchesOfSamples(t *testing.T) {
	s := &samples{state: 3}
	matched := 0
	const tries = 4000
	for range tries {
		p := s.pattern(6)
		if s.below(10) == 0 {
			p = s.change(p)
		}
		x := compiled(p)
		if !x.right {
			p = p[:0]
			x = compiled(p)
		}
		for range 5 {
			if checkMatches(t, p, x, s.subject(p)) {
				matched++
			}
		}
	}
	if matched < tries || matched > tries*4 {
		t.Errorf("%d of %d texts were matched", matched, tries*5)
	}
}

// TestLongMatches has patterns with as many pieces, and texts with as many characters, as there can be.
func TestLongMatches(t *testing.T) {
	for _, form := range []string{strings.Repeat(`\.*`, 20), strings.Repeat(`\.*`, 19) + "~", strings.Repeat(`\d`, 30), strings.Repeat(`\d+`, 20), strings.Repeat(`\d{0,10}`, 7), `\.{199}\.`, `\.{200}\.`, `\.{100,200}\.{100,200}`, `\.{101}\.{100}`} {
		p := parsed(t, form)
		x := compiled(p)
		for _, length := range []int{0, 1, 19, 20, 29, 30, 31, 70, 71, 199, 200, 201} {
			checkMatches(t, p, x, strings.Repeat("5", length))
			checkMatches(t, p, x, strings.Repeat("5", length)+"~")
		}
	}
}
