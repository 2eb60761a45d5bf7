package pattern_test

import (
	"slices"
	"testing"

	"concord/api"
	"concord/pattern"
)

// P5.6: the consequences, without another implementation beside the package.

func TestParseUndoesPrint(t *testing.T) {
	s := &samples{state: 6}
	for range 30000 {
		p := s.pattern(10)
		text := pattern.Print(p)
		if back, at, e := pattern.Parse(text); !slices.Equal(back, p) || at != 0 || e != api.OK || (text == "") != (len(p) == 0) {
			t.Fatalf("Parse(%q) = %v, %d, %d, not %v", text, back, at, e, p)
		}
	}
}

// TestPrintShortensForms has forms with counts that can be written in another way.
func TestPrintShortensForms(t *testing.T) {
	for s, want := range map[string]string{`\d{1}\d{0,200}\d{1,200}`: `\d\d*\d+`, `\u{1,1}x\l{7,7}`: `\ux\l{7}`, `\.{200,200}`: `\.{200}`, `\s{0,1}`: `\s{0,1}`} {
		p := parsed(t, s)
		if got := pattern.Print(p); got != want || !slices.Equal(parsed(t, got), p) {
			t.Errorf("%q is printed as %q", s, got)
		}
	}
}

// TestCoveringPatternsMatch has all pairs of small patterns, and all small texts.
func TestCoveringPatternsMatch(t *testing.T) {
	all, texts := smallPatterns(), smallTexts(4)
	matched := make([][]int, len(all))
	for i, p := range all {
		for number, s := range texts {
			if pattern.Matches(p, s) {
				matched[i] = append(matched[i], number)
			}
		}
	}
	covered := 0
	for i, p := range all {
		for k, q := range all {
			if !pattern.Covers(p, q) {
				continue
			}
			covered++
			for _, number := range matched[k] {
				if _, ok := slices.BinarySearch(matched[i], number); !ok {
					t.Fatalf("Covers(%v, %v), but %q is matched by the second one only", p, q, texts[number])
				}
			}
		}
	}
	if covered < 3*len(all) {
		t.Errorf("%d pairs", covered)
	}
}

func TestCoveringPatternsMatchSamples(t *testing.T) {
	s := &samples{state: 7}
	compared := 0
	const tries = 20000
	for range tries {
		p := s.pattern(4)
		for _, q := range [][]api.Piece{s.wider(p), s.sums(p), p} {
			text := s.subject(p)
			if !pattern.Covers(q, p) || !pattern.Matches(p, text) {
				continue
			}
			compared++
			if !pattern.Matches(q, text) {
				t.Fatalf("Covers(%v, %v), but %q is matched by the second one only", q, p, text)
			}
		}
	}
	if compared < tries/4 {
		t.Errorf("compared only %d texts", compared)
	}
}

func TestEachPatternCoversItself(t *testing.T) {
	s := &samples{state: 8}
	for range 20000 {
		p := s.pattern(8)
		if !pattern.Covers(p, p) || !pattern.Covers([]api.Piece{{Class: 7, Most: 200}}, p) {
			t.Fatalf("%v", p)
		}
	}
}

// TestFindsAreInOrder also shows that each find is matched, and no longer part at its place, and nothing before it.
func TestFindsAreInOrder(t *testing.T) {
	s := &samples{state: 9}
	found := 0
	for range 4000 {
		p := s.pattern(4)
		text := s.subject(p)
		if !isText(text) || len(text) > 40 {
			continue
		}
		end := 0
		for nth := 1; ; nth++ {
			from, to, ok := pattern.Find(p, text, nth)
			if !ok {
				checkNothingBetween(t, p, text, end, len(text))
				if pattern.Count(p, text) != nth-1 {
					t.Fatalf("Count(%v, %q) is not %d", p, text, nth-1)
				}
				break
			}
			found++
			if from < end || to <= from || !pattern.Matches(p, text[from:to]) {
				t.Fatalf("Find(%v, %q, %d) = %d, %d after %d", p, text, nth, from, to, end)
			}
			for longer := to + 1; longer <= len(text); longer++ {
				if pattern.Matches(p, text[from:longer]) {
					t.Fatalf("Find(%v, %q, %d) = %d, %d, not %d", p, text, nth, from, to, longer)
				}
			}
			checkNothingBetween(t, p, text, end, from)
			end = to
		}
	}
	if found < 2000 {
		t.Errorf("%d finds", found)
	}
}

// checkNothingBetween reports a part that is matched, and begins at one of these places.
func checkNothingBetween(t *testing.T, p []api.Piece, text string, from, to int) {
	t.Helper()
	for begin := from; begin < to; begin++ {
		for end := begin + 1; end <= len(text); end++ {
			if pattern.Matches(p, text[begin:end]) {
				t.Fatalf("%v matches %q in %q, which is no find", p, text[begin:end], text)
			}
		}
	}
}
