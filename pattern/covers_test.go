package pattern_test

import (
	"slices"
	"testing"

	"concord/api"
	"concord/pattern"
)

// P5.5: Covers.

// covers returns what Covers should return, with lists of the characters of classes.
func covers(p, q []api.Piece) bool {
	if !isRight(p) || !isRight(q) {
		return false
	}
	each := len(p) == len(q)
	for i := 0; each && i < len(p); i++ {
		each = coversAtPlace(p[i], q[i])
	}
	if each || len(p) != 1 || p[0].Class == 0 {
		return each
	}
	least, most := 0, 0
	for _, piece := range q {
		if !allAmong(charactersOf(piece), membersOf(p[0].Class)) {
			return false
		}
		least += piece.Least + len(piece.Text)
		most += piece.Most + len(piece.Text)
	}
	return p[0].Least <= least && p[0].Most >= min(200, most)
}

// charactersOf returns all characters that a right piece can contain.
func charactersOf(piece api.Piece) string { return piece.Text + membersOf(piece.Class) }

// coversAtPlace reports whether a covers b.
func coversAtPlace(a, b api.Piece) bool {
	switch {
	case a.Class == 0:
		return b == a
	case !allAmong(charactersOf(b), membersOf(a.Class)):
		return false
	case b.Class == 0:
		return a.Least <= len(b.Text) && len(b.Text) <= a.Most
	}
	return a.Least <= b.Least && b.Most <= a.Most
}

// checkCovers compares the result of Covers with what it should be.
func checkCovers(t *testing.T, p, q []api.Piece) bool {
	t.Helper()
	want := covers(p, q)
	if got := pattern.Covers(p, q); got != want {
		t.Fatalf("Covers(%v, %v) is %t", p, q, got)
	}
	return want
}

func TestExamplesOfCovers(t *testing.T) {
	for _, c := range []struct {
		p, q string
		want bool
	}{
		{`\a+`, `\u\l*`, true}, {`\u\l*`, `\a+`, false}, {"", "", true}, {"", "a", false}, {"", `\d*`, false}, {"a", "", false}, {`\d*`, "", true}, {`\d{0,1}`, "", true}, {`\d+`, "", false},
		{"ab", "ab", true}, {"ab", "a", false}, {"ab", "ac", false}, {"a", `\l`, false}, {`\l`, "a", true}, {`\l`, "A", false}, {`\l`, "ab", false}, {`\l{2}`, "ab", true}, {`\l{3}`, "ab", false}, {`\l{0,2}`, "ab", true}, {`\l+`, "aB", false}, {`\o*`, `\{`, true},
		{`\a\d{1,3}`, `\u\d{2}`, true}, {`\a\d{1,3}`, `\u\d{1,3}`, true}, {`\a\d{1,3}`, `\u\d{2,4}`, false}, {`\a\d{2,3}`, `\u\d{1,3}`, false}, {`\u\d`, `\a\d`, false}, {`\.\.`, `\s\o`, true}, {`a\d`, `a\d`, true}, {`\l\d`, `a\d`, true}, {`a\d`, `\l\d`, false}, {`a\d`, `b\d`, false}, {`\d\d`, `\d`, false}, {`\d`, `\d\d`, false},
		{`\.*`, `\d*\l*\u*`, true}, {`\.+`, `\d*`, false}, {`\.+`, `\d*\l`, true}, {`\.{3}`, "a-1", true}, {`\.{2}`, "a-1", false}, {`\a{2,4}`, `\l\u{1,3}`, true}, {`\a{2,3}`, `\l\u{1,3}`, false}, {`\a{3,4}`, `\l\u{1,3}`, false}, {`\a+`, `\l1`, false}, {`\a+`, `\l\.`, false}, {`\a{2,9}`, `\lxy\u{0,6}`, true}, {`\a{2,8}`, `\lxy\u{0,6}`, false},
		{`\.*`, `\.*\.*`, true}, {`\.{0,199}`, `\.*\.*`, false}, {`\.{0,200}`, `\.{150}\.{100}`, true}, {`\.{150,200}`, `\.{100,150}\.{50}`, true}, {`\.{151,200}`, `\.{100,150}\.{50}`, false},
	} {
		p, q := parsed(t, c.p), parsed(t, c.q)
		if pattern.Covers(p, q) != c.want {
			t.Errorf("Covers(%q, %q) is not %t", c.p, c.q, c.want)
		}
		checkCovers(t, p, q)
	}
}

// TestCoversOfSinglePieces has all pairs of runs with each class, or literals, with some counts.
func TestCoversOfSinglePieces(t *testing.T) {
	l := [][]api.Piece{nil}
	for _, text := range []string{"a", "A", "0", " ", "-", "ab", "aB", "a1", "1-", "  ", "aB1 -", "zz9"} {
		l = append(l, []api.Piece{{Text: text}})
	}
	for class := 1; class <= 7; class++ {
		for _, count := range [][2]int{{1, 1}, {0, 1}, {0, 2}, {1, 2}, {2, 2}, {2, 5}, {0, 200}, {1, 200}, {5, 199}, {200, 200}} {
			l = append(l, []api.Piece{{Class: class, Least: count[0], Most: count[1]}})
		}
	}
	covered := 0
	for _, p := range l {
		for _, q := range l {
			if checkCovers(t, p, q) {
				covered++
			}
			for _, other := range []api.Piece{{Class: 1, Least: 1, Most: 1}, {Class: 7, Least: 0, Most: 3}} {
				checkCovers(t, append(slices.Clone(p), other), append(slices.Clone(q), other))
				checkCovers(t, append([]api.Piece{other}, p...), append([]api.Piece{other}, q...))
				checkCovers(t, p, append(slices.Clone(q), other))
				checkCovers(t, append(slices.Clone(p), other), q)
			}
		}
	}
	if covered < 500 || covered > len(l)*len(l)/2 {
		t.Errorf("%d of %d patterns were covered", covered, len(l)*len(l))
	}
}

func TestCoversOfWrongPatterns(t *testing.T) {
	all := parsed(t, `\.*`)
	for _, p := range wrongPatterns() {
		if pattern.Covers(p, p) || pattern.Covers(all, p) || pattern.Covers(p, all) || pattern.Covers(p, nil) || pattern.Covers(nil, p) {
			t.Errorf("Covers of %.100v is true", p)
		}
		if len(p) == 1 {
			for _, s := range []string{"a", `\d`, `\d*`, "aa", `\d\l`} {
				checkCovers(t, p, parsed(t, s))
				checkCovers(t, parsed(t, s), p)
			}
		}
	}
}

// wider returns a pattern that covers p, or nearly does.
func (s *samples) wider(p []api.Piece) []api.Piece {
	q := slices.Clone(p)
	for i, piece := range q {
		if piece.Class == 0 && s.below(2) == 0 {
			q[i] = api.Piece{Class: element(s, []int{7, 4, 3, 7}), Least: len(piece.Text) - s.below(2), Most: len(piece.Text) + s.below(3)}
		}
		if piece.Class > 0 {
			q[i].Class = element(s, []int{piece.Class, 7, 4, piece.Class})
			q[i].Least = max(0, piece.Least-s.below(3))
			q[i].Most = min(200, piece.Most+s.below(3))
		}
	}
	if s.below(4) == 0 {
		return s.change(q)
	}
	return q
}

// sums returns a single run around the lengths of p.
func (s *samples) sums(p []api.Piece) []api.Piece {
	least, most := s.below(3)-1, s.below(3)-1
	for _, piece := range p {
		least += piece.Least + len(piece.Text)
		most += piece.Most + len(piece.Text)
	}
	return []api.Piece{{Class: element(s, []int{7, 7, 4, 3, 1}), Least: min(200, max(0, least)), Most: min(element(s, []int{200, 200, 199}), max(1, most))}}
}

func TestCoversOfSamples(t *testing.T) {
	s := &samples{state: 5}
	covered := map[bool]int{}
	const tries = 40000
	for range tries {
		p := s.pattern(5)
		for single, q := range map[bool][]api.Piece{false: s.wider(p), true: s.sums(p)} {
			if checkCovers(t, q, p) && len(p) > 1 {
				covered[single]++
			}
			checkCovers(t, p, q)
		}
	}
	for single, count := range covered {
		if count < tries/20 || count > tries*9/10 {
			t.Errorf("%d of %d patterns were covered (by one run: %t)", count, tries, single)
		}
	}
}
