package nat

import (
	"math/bits"
	"strconv"
	"strings"

	"concord/api"
)

// Decimal digits are converted in groups, each as long as fits into a word.
const (
	groupDigits = 19
	groupBase   = 10000000000000000000 // 10^groupDigits
)

// Text returns a in decimal, without zeros in front.
func Text(a api.Nat) string {
	groups := groupsOf(wordsOf(a))
	if len(groups) == 0 {
		return "0"
	}
	last := len(groups) - 1
	var text strings.Builder
	text.WriteString(strconv.FormatUint(groups[last], 10))
	for i := last - 1; i >= 0; i-- {
		digits := strconv.FormatUint(groups[i], 10)
		text.WriteString(strings.Repeat("0", groupDigits-len(digits)))
		text.WriteString(digits)
	}
	return text.String()
}

// Parse returns the number whose Text is s, and true; 0 and false, if there is none.
func Parse(s string) (api.Nat, bool) {
	if !isText(s) {
		return "", false
	}
	var words []uint64
	for len(s) > 0 {
		size := (len(s)-1)%groupDigits + 1 // only the first group is shorter
		words = timesPlus(words, groupBase, groupOf(s[:size]))
		s = s[size:]
	}
	return natOf(words), true
}

// groupsOf returns the digits of words to the base groupBase, the least significant one first, without zeros at the end. It destroys words.
func groupsOf(words []uint64) []uint64 {
	var groups []uint64
	for len(words) > 0 {
		groups = append(groups, divideInPlace(words, groupBase))
		words = trimmed(words)
	}
	return groups
}

// isText reports whether s is the Text of a number.
func isText(s string) bool {
	for i := range len(s) {
		if s[i] < '0' || s[i] > '9' {
			return false
		}
	}
	return s == "0" || s != "" && s[0] != '0'
}

// groupOf returns the number of at most groupDigits digits.
func groupOf(digits string) uint64 {
	group := uint64(0)
	for i := range len(digits) {
		group = 10*group + uint64(digits[i]-'0')
	}
	return group
}

// timesPlus returns words times factor, plus a word. It uses the memory of words.
func timesPlus(words []uint64, factor, plus uint64) []uint64 {
	for i, word := range words {
		high, low := bits.Mul64(word, factor)
		low, over := bits.Add64(low, plus, 0)
		words[i] = low
		plus = high + over
	}
	if plus > 0 {
		words = append(words, plus)
	}
	return words
}
