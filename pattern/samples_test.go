package pattern_test

import (
	"fmt"
	"math"
	"regexp"
	"slices"
	"strings"
	"testing"

	"concord/api"
	"concord/pattern"
)

// The tests of this package call exported functions only. Patterns are compared with regular expressions, and classes with lists of their characters. Samples come from a generator with a fixed start, so that each run tests the same ones.

// samples generates patterns and texts.
type samples struct{ state uint64 }

// below returns a number from 0 to n - 1 (splitmix64).
func (s *samples) below(n int) int {
	s.state += 0x9e3779b97f4a7c15
	z := s.state
	z = (z ^ z>>30) * 0xbf58476d1ce4e5b9
	z = (z ^ z>>27) * 0x94d049bb133111eb
	return int((z ^ z>>31) % uint64(n))
}

// element returns an element of l.
func element[T any](s *samples, l []T) T { return l[s.below(len(l))] }

// membersOf returns the characters of a class.
func membersOf(class int) string {
	const (
		digits = "0123456789"
		upper  = "ABCDEFGHIJKLMNOPQRSTUVWXYZ"
		lower  = "abcdefghijklmnopqrstuvwxyz"
		others = "!\"#$%&'()*+,-./:;<=>?@[\\]^_`{|}~"
	)
	return []string{"", digits, upper, lower, upper + lower, " ", others, digits + upper + lower + " " + others}[class]
}

// allAmong reports whether all bytes of s are in members.
func allAmong(s, members string) bool {
	for i := range len(s) {
		if strings.IndexByte(members, s[i]) < 0 {
			return false
		}
	}
	return true
}

// special is a character with an escape in front.
var special = regexp.MustCompile(`[\\{}+*]`)

// form returns what the written form of pieces would be, of right ones and of many others.
func form(p []api.Piece) string {
	var text strings.Builder
	for _, piece := range p {
		if piece.Class == 0 {
			text.WriteString(special.ReplaceAllString(piece.Text, `\$0`))
			continue
		}
		fmt.Fprintf(&text, `\%c`, "_dulaso."[piece.Class])
		switch count := [2]int{piece.Least, piece.Most}; count {
		case [2]int{1, 1}:
		case [2]int{1, 200}:
			text.WriteString("+")
		case [2]int{0, 200}:
			text.WriteString("*")
		case [2]int{piece.Most, piece.Most}:
			fmt.Fprintf(&text, "{%d}", piece.Least)
		default:
			fmt.Fprintf(&text, "{%d,%d}", piece.Least, piece.Most)
		}
	}
	return text.String()
}

// isRight reports whether p is right, without the help of the package.
func isRight(p []api.Piece) bool {
	afterLiteral := false
	for _, piece := range p {
		isLiteral := piece.Class == 0
		switch {
		case isLiteral && (afterLiteral || piece != api.Piece{Text: piece.Text} || piece.Text == "" || !allAmong(piece.Text, membersOf(7))):
			return false
		case !isLiteral && (piece.Class < 1 || piece.Class > 7 || piece.Text != "" || piece.Least < 0 || piece.Least > piece.Most || piece.Most < 1 || piece.Most > 200):
			return false
		}
		afterLiteral = isLiteral
	}
	return len(form(p)) <= 60
}

// isText reports whether s is a text, without the help of the package.
func isText(s string) bool { return len(s) <= 200 && allAmong(s, membersOf(7)) }

// parsed returns the pattern with a written form, which must be right.
func parsed(t *testing.T, s string) []api.Piece {
	t.Helper()
	p, at, e := pattern.Parse(s)
	if at != 0 || e != api.OK || !isRight(p) {
		t.Fatalf("Parse(%q) = %v, %d, %d", s, p, at, e)
	}
	return p
}

// piece returns a right piece. Its counts are small more often than not.
func (s *samples) piece() api.Piece {
	if s.below(3) == 0 {
		return api.Piece{Text: s.text(1 + s.below(4))}
	}
	least := s.below(4)
	most := max(1, least+s.below(4))
	switch s.below(6) {
	case 0:
		least, most = s.below(2), 200
	case 1:
		least, most = 1, 1
	case 2:
		most = 1 + s.below(200)
		least = s.below(most + 1)
	}
	return api.Piece{Class: 1 + s.below(7), Least: least, Most: most}
}

// pattern returns a right pattern with at most so many pieces.
func (s *samples) pattern(most int) []api.Piece {
	var p []api.Piece
	for range s.below(most + 1) {
		if longer := append(slices.Clone(p), s.piece()); isRight(longer) {
			p = longer
		}
	}
	return p
}

// text returns a text of a length, with few different characters of each class.
func (s *samples) text(length int) string {
	const common = `aabcAABC012  -+\{}*.~`
	text := make([]byte, length)
	for i := range text {
		text[i] = common[s.below(len(common))]
		if s.below(8) == 0 {
			text[i] = byte(32 + s.below(95))
		}
	}
	return string(text)
}

// matching returns a text that a right pattern matches, or, if that would be too long, a beginning of one.
func (s *samples) matching(p []api.Piece) string {
	var text strings.Builder
	for _, piece := range p {
		text.WriteString(piece.Text)
		if piece.Class == 0 {
			continue
		}
		length := piece.Least + s.below(min(piece.Most-piece.Least, 5)+1)
		if s.below(10) == 0 {
			length = element(s, []int{piece.Least, piece.Most})
		}
		for range length {
			members := membersOf(piece.Class)
			text.WriteByte(members[s.below(len(members))])
		}
	}
	return text.String()[:min(text.Len(), 200)]
}

// subject returns a string for a pattern: one that it matches, with others around it or changed in one byte, or any.
func (s *samples) subject(p []api.Piece) string {
	text := s.matching(p)
	switch s.below(6) {
	case 0:
		text = s.text(s.below(8)) + text + s.text(s.below(4)) + s.matching(p)
	case 1:
		if text != "" {
			at := s.below(len(text))
			text = text[:at] + string([]byte{byte(s.below(256))}) + text[at+1:]
		}
	case 2:
		text = s.text(s.below(30))
	case 3:
		text = s.matching(p) + text + text
	}
	return text
}

// change returns a pattern that is not far from p; it may not be right.
func (s *samples) change(p []api.Piece) []api.Piece {
	p = slices.Clone(p)
	if len(p) == 0 || s.below(8) == 0 {
		return append(p, s.piece())
	}
	at := s.below(len(p))
	switch s.below(9) {
	case 0:
		p[at].Class = s.below(10) - 1
	case 1:
		p[at].Least += s.below(5) - 2
	case 2:
		p[at].Most += s.below(5) - 2
	case 3:
		p[at].Text += s.text(s.below(2))
	case 4:
		p[at].Text = string([]byte{byte(s.below(256))})
	case 5:
		return slices.Delete(p, at, at+1)
	case 6:
		return slices.Insert(p, at, s.piece())
	case 7:
		p[at] = s.piece()
	}
	return p
}

// wrongPatterns returns patterns that are not right, each for one reason only.
func wrongPatterns() [][]api.Piece {
	run, text := api.Piece{Class: 1, Least: 1, Most: 1}, api.Piece{Text: "a"}
	l := [][]api.Piece{
		{{}}, {run, {}}, {{}, run}, {text, text}, {run, text, text, run}, {text, run, text, text}, {{Text: "a", Least: 1}}, {{Text: "a", Most: 1}}, {{Text: "a", Least: 1, Most: 1}}, {{Text: "a", Least: -1}},
		{{Class: 1}}, {{Class: 7, Least: 2, Most: 1}}, {{Class: 1, Least: -1, Most: 1}}, {{Class: 1, Least: 1}}, {{Class: 1, Least: 0, Most: 201}}, {{Class: 1, Least: 201, Most: 201}}, {{Class: 1, Least: 200, Most: 201}}, {{Class: 1, Most: math.MaxInt}}, {{Class: 1, Least: math.MinInt, Most: 1}}, {{Class: 1, Least: math.MinInt, Most: math.MaxInt}}, {{Class: 1, Least: -2, Most: -1}},
		{{Class: 1, Least: 1, Most: 1, Text: "a"}}, {{Class: 7, Most: 200, Text: "1"}}, {{Class: 8, Most: 1}}, {{Class: -1, Most: 1}}, {{Class: 9, Most: 1}}, {{Class: math.MaxInt, Most: 1}}, {{Class: math.MinInt, Most: 1}}, {{Class: -1, Text: "a"}}, {{Class: 8}}, {{Class: 1 << 32, Text: "a"}}, {{Class: 1<<8 + 1, Most: 1}},
		{{Text: strings.Repeat("a", 61)}}, {{Text: strings.Repeat(`\`, 31)}}, {{Text: strings.Repeat("a", 59) + "+"}}, {{Text: strings.Repeat("a", 1<<20)}}, {{Text: "é"}}, {{Text: strings.Repeat("a", 59)}, run}, {run, {Text: strings.Repeat("*", 29) + "a"}},
		slices.Repeat([]api.Piece{run}, 31), slices.Repeat([]api.Piece{run}, 1<<16), slices.Repeat([]api.Piece{{Class: 2, Most: 200}}, 21), slices.Repeat([]api.Piece{{Class: 3, Least: 1, Most: 2}}, 9), slices.Repeat([]api.Piece{{Class: 6, Least: 100, Most: 199}}, 6),
	}
	for b := range 256 {
		if b < 32 || b > 126 {
			l = append(l, []api.Piece{{Text: string([]byte{byte(b)})}}, []api.Piece{run, {Text: "x" + string([]byte{byte(b)}) + "y"}})
		}
	}
	return l
}

// expression is a regular expression for a right pattern.
type expression struct {
	right        bool
	whole, ahead *regexp.Regexp
}

// compiled returns the expressions for a pattern; none, if it is not right.
func compiled(p []api.Piece) expression {
	if !isRight(p) {
		return expression{}
	}
	var source strings.Builder
	for _, piece := range p {
		if piece.Class == 0 {
			source.WriteString(regexp.QuoteMeta(piece.Text))
			continue
		}
		class := []string{"", "[0-9]", "[A-Z]", "[a-z]", "[A-Za-z]", "[ ]", "[!-/:-@\\[-`{-~]", "[ -~]"}[piece.Class]
		fmt.Fprintf(&source, "%s{%d,%d}", class, piece.Least, piece.Most)
	}
	x := expression{true, regexp.MustCompile(`\A(?:` + source.String() + `)\z`), regexp.MustCompile(`\A(?:` + source.String() + `)`)}
	x.ahead.Longest()
	return x
}

// matches reports whether the pattern matches s.
func (x expression) matches(s string) bool { return x.right && isText(s) && x.whole.MatchString(s) }

// finds returns where the finds of the pattern in s begin and end.
func (x expression) finds(s string) [][2]int {
	var l [][2]int
	if !x.right || !isText(s) {
		return l
	}
	for at := 0; at < len(s); {
		if found := x.ahead.FindStringIndex(s[at:]); found != nil && found[1] > 0 {
			l = append(l, [2]int{at, at + found[1]})
			at += found[1]
			continue
		}
		at++
	}
	return l
}

// smallPatterns returns all right patterns of up to three of some pieces.
func smallPatterns() [][]api.Piece {
	pieces := []api.Piece{{Text: "a"}, {Text: "aA"}, {Class: 1, Least: 1, Most: 1}, {Class: 4, Most: 200}, {Class: 3, Most: 1}, {Class: 2, Least: 1, Most: 200}, {Class: 7, Least: 2, Most: 2}, {Class: 6, Most: 2}}
	all := [][]api.Piece{nil}
	for begin := 0; len(all[begin]) < 3; begin++ {
		for _, piece := range pieces {
			if p := append(slices.Clone(all[begin]), piece); isRight(p) {
				all = append(all, p)
			}
		}
	}
	return all
}

// smallTexts returns all texts of up to so many of some characters.
func smallTexts(most int) []string {
	all := []string{""}
	for begin := 0; begin < len(all) && len(all[begin]) < most; begin++ {
		for _, c := range []string{"a", "A", "1", "-"} {
			all = append(all, all[begin]+c)
		}
	}
	return all
}
