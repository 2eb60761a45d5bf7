package shape_test

import (
	"bytes"
	"fmt"
	"math"
	"strings"

	"concord/api"
)

// The tests of this package call exported functions only. Whether there is a text is found out by trying one of each length, and classes are lists of their characters. Samples come from a generator with a fixed start, so that each run tests the same ones.

// samples generates texts and shapes.
type samples struct{ state uint64 }

// below returns a number from 0 to n - 1 (splitmix64).
func (s *samples) below(n int) int {
	s.state += 0x9e3779b97f4a7c15
	z := s.state
	z = (z ^ z>>30) * 0xbf58476d1ce4e5b9
	z = (z ^ z>>27) * 0x94d049bb133111eb
	return int((z ^ z>>31) % uint64(n))
}

// element returns an element of l.
func element[T any](s *samples, l []T) T { return l[s.below(len(l))] }

const (
	upperLetters  = "ABCDEFGHIJKLMNOPQRSTUVWXYZ"
	lowerLetters  = "abcdefghijklmnopqrstuvwxyz"
	allCharacters = " !\"#$%&'()*+,-./0123456789:;<=>?@ABCDEFGHIJKLMNOPQRSTUVWXYZ[\\]^_`abcdefghijklmnopqrstuvwxyz{|}~"
)

// ownBits are the bits of classes that characters have.
func ownBits() []int { return []int{2, 4, 8, 32, 64} }

// members returns the characters of the class with a bit.
func members(bit int) string {
	switch bit {
	case 2:
		return "0123456789"
	case 4:
		return upperLetters
	case 8:
		return lowerLetters
	case 32:
		return " "
	}
	return "!\"#$%&'()*+,-./:;<=>?@[\\]^_`{|}~"
}

// bitTable returns the bit of the class of each character, and 0 for other bytes.
func bitTable() [256]int {
	var table [256]int
	for _, bit := range ownBits() {
		for _, c := range members(bit) {
			table[c] = bit
		}
	}
	return table
}

var bitOf = bitTable()

// bitsOf returns the class bits of s, and whether s is a text.
func bitsOf(s string) (int, bool) {
	if len(s) > 200 {
		return 0, false
	}
	bits := 0
	for i := range len(s) {
		if bitOf[s[i]] == 0 {
			return 0, false
		}
		bits |= bitOf[s[i]]
	}
	return bits, true
}

// contains reports whether a shape contains s, by the words of the document.
func contains(a api.Shape, s string) bool {
	bits, ok := bitsOf(s)
	switch {
	case !ok, len(s) < a.Least, len(s) > a.Most, bits&a.Classes != bits:
		return false
	case len(s) < len(a.Begin), len(s) < len(a.End):
		return false
	}
	return s[:len(a.Begin)] == a.Begin && s[len(s)-len(a.End):] == a.End
}

// commonTexts returns one text of each length of which some text is in all of these shapes: that with all their ends, and with one character everywhere else.
func commonTexts(shapes ...api.Shape) []string {
	least, most, classes := 0, 200, -1
	for _, a := range shapes {
		least, most, classes = max(least, a.Least), min(most, a.Most), classes&a.Classes
	}
	filler := byte('?')
	for _, bit := range ownBits() {
		if classes&bit != 0 {
			filler = members(bit)[0]
		}
	}
	var l []string
	for length := least; length <= most; length++ {
		text := bytes.Repeat([]byte{filler}, length)
		for _, a := range shapes {
			if len(a.Begin) <= length && len(a.End) <= length {
				copy(text, a.Begin)
				copy(text[length-len(a.End):], a.End)
			}
		}
		inAll := true
		for _, a := range shapes {
			inAll = inAll && contains(a, string(text))
		}
		if inAll {
			l = append(l, string(text))
		}
	}
	return l
}

// isEmpty reports whether a shape contains no text.
func isEmpty(a api.Shape) bool { return len(commonTexts(a)) == 0 }

// facts returns the least and the greatest length of a shape, and its own bits.
func facts(a api.Shape) (least, greatest, own int) {
	for _, length := range []int{a.Least, len(a.Begin), len(a.End)} {
		least = max(least, length)
	}
	for _, bit := range ownBits() {
		if a.Classes&bit != 0 {
			own += bit
		}
	}
	return least, min(a.Most, 200), own
}

// show returns a text for a shape, whose ends can be long.
func show(a api.Shape) string {
	return fmt.Sprintf("{%d, %d, %d, %.50q, %.50q}", a.Least, a.Most, a.Classes, a.Begin, a.End)
}

// none returns the empty shape.
func none() api.Shape { return api.Shape{Least: 1, Most: 0, Classes: 0, Begin: "", End: ""} }

// full returns the full shape.
func full() api.Shape { return api.Shape{Least: 0, Most: 200, Classes: 110, Begin: "", End: ""} }

// of returns the shape of a text alone.
func of(text string) api.Shape {
	bits, _ := bitsOf(text)
	return api.Shape{Least: len(text), Most: len(text), Classes: bits, Begin: text, End: text}
}

// text returns a text of a length, with few different characters of each class, or of the first classes only.
func (s *samples) text(length int) string {
	characters := element(s, []string{"ab", "aA", "abA1", "aabAB12 -~", allCharacters})
	text := make([]byte, length)
	for i := range text {
		text[i] = characters[s.below(len(characters))]
	}
	return string(text)
}

// length returns a length of a text, a small one more often than not.
func (s *samples) length() int {
	switch s.below(10) {
	case 0:
		return s.below(201)
	case 1:
		return 200 - s.below(4)
	}
	return s.below(8)
}

// around returns a shape that contains a text, with ends that overlap in it more often than not.
func (s *samples) around(text string) api.Shape {
	a := of(text)
	a.Begin = text[:s.below(len(text)+1)]
	a.End = text[s.below(len(text)+1):]
	switch s.below(4) {
	case 0:
		a.Begin = ""
	case 1:
		a.End = ""
	}
	if s.below(2) == 0 {
		a.Least = max(0, a.Least-s.below(6))
	}
	if s.below(2) == 0 {
		a.Most = min(200, a.Most+s.below(6))
	}
	if s.below(2) == 0 {
		a.Classes |= s.below(128)
	}
	return a
}

// change changes one field of a shape; the other ones may not fit any longer.
func (s *samples) change(a api.Shape) api.Shape {
	switch s.below(6) {
	case 0:
		a.Least = element(s, []int{s.length(), a.Least + 1, a.Least - 1, -1, -200, 199, 200, 201, math.MinInt, math.MaxInt})
	case 1:
		a.Most = element(s, []int{s.length(), a.Most + 1, a.Most - 1, a.Least, -1, 0, 199, 200, 201, math.MinInt, math.MaxInt})
	case 2:
		a.Classes = element(s, []int{s.below(128), a.Classes &^ element(s, ownBits()), a.Classes ^ element(s, []int{1, 16, 128, math.MinInt}), 0, 110, 145, -1, -3, ^110, math.MinInt, math.MaxInt, 110 << 8})
	case 3:
		a.Begin = element(s, []string{s.text(s.length()), a.Begin + s.text(1), a.End, element(s, otherStrings())})
	case 4:
		a.End = element(s, []string{s.text(s.length()), s.text(1) + a.End, a.Begin, element(s, otherStrings())})
	case 5:
		a.Least, a.Most = a.Most, a.Least
	}
	return a
}

// shape returns a shape around a text, some with fields changed.
func (s *samples) shape(text string) api.Shape {
	a := s.around(text)
	for s.below(2) == 0 {
		a = s.change(a)
	}
	return a
}

// pair returns two shapes, around one text more often than not.
func (s *samples) pair() (a, b api.Shape) {
	text := s.text(s.length())
	a = s.shape(text)
	if s.below(3) == 0 {
		text = s.text(s.length())
	}
	return a, s.shape(text)
}

// textsIn returns some texts that a shape contains, with any characters between the ends.
func (s *samples) textsIn(a api.Shape) []string {
	var l []string
	all := commonTexts(a)
	for range min(len(all), 6) {
		text := []byte(element(s, all))
		for i := range text {
			changed := bytes.Clone(text)
			changed[i] = allCharacters[s.below(len(allCharacters))]
			if contains(a, string(changed)) {
				text = changed
			}
		}
		l = append(l, string(text))
	}
	return l
}

// otherStrings returns strings that are no texts, each for one reason.
func otherStrings() []string {
	return []string{"\x00", "\x1f", "\x7f", "\x80", "\xff", "é", "a\n", "\ta", "a\x00b", strings.Repeat("a", 201), strings.Repeat("ab", 101), strings.Repeat(" ", 1000), strings.Repeat("a", 199) + "é", strings.Repeat("a", 199) + "\x1f"}
}

// someShapes returns shapes of all forms.
func someShapes(count int, state uint64) []api.Shape {
	s := &samples{state: state}
	l := []api.Shape{none(), full(), {}, {Least: 9, Most: 1}, {Least: math.MinInt, Most: math.MaxInt, Classes: -1}, {Least: math.MaxInt, Most: math.MinInt, Classes: -1}, {Most: 200}, {Least: 1, Most: 200}, {Most: 200, Classes: ^110}, {Least: 200, Most: 200, Classes: 2}, {Least: 200, Most: 201, Classes: 32}, {Least: 201, Most: 300, Classes: 110}}
	for range count {
		l = append(l, s.shape(s.text(s.length())))
	}
	return l
}

// smallTexts returns all texts of up to so many of some characters.
func smallTexts(characters string, most int) []string {
	all := []string{""}
	for begin := 0; begin < len(all) && len(all[begin]) < most; begin++ {
		for _, c := range characters {
			all = append(all, all[begin]+string(c))
		}
	}
	return all
}

// smallShapes returns shapes with texts of a, b and A, of at most 4 characters, and many without texts.
func smallShapes() []api.Shape {
	var l []api.Shape
	for _, lengths := range [][2]int{{-1, 0}, {0, 1}, {1, 3}, {2, 2}, {3, 4}, {4, 4}, {3, 2}, {0, 4}} {
		for _, classes := range []int{0, 8, 12, 110} {
			for _, begin := range []string{"", "a", "ab", "aba"} {
				for _, end := range []string{"", "a", "ba", "A"} {
					l = append(l, api.Shape{Least: lengths[0], Most: lengths[1], Classes: classes, Begin: begin, End: end})
				}
			}
		}
	}
	return l
}
