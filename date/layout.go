package date

import (
	"iter"
	"strconv"
	"strings"
)

const (
	maxLayout    = 40
	layoutOfText = "YYYY-MM-DD"
)

// fields are the fields of layouts; each one stands in front of those with which it begins.
var fields = [...]string{"YYYY", "MM", "M", "DD", "D"}

// partsOf returns the parts of a layout, one after the other: fields, and single bytes between them.
func partsOf(layout string) iter.Seq[string] {
	return func(yield func(string) bool) {
		for rest := layout; rest != ""; {
			part := firstPart(rest)
			if !yield(part) {
				return
			}
			rest = rest[len(part):]
		}
	}
}

// firstPart returns the longest field with which a layout begins, or its first byte.
func firstPart(layout string) string {
	for _, field := range fields {
		if strings.HasPrefix(layout, field) {
			return field
		}
	}
	return layout[:1]
}

// isRight reports whether a layout is right.
func isRight(layout string) bool {
	if len(layout) > maxLayout {
		return false
	}
	var years, months, days int
	afterOneLetter := false // directly after a field M or D, whose end would not be known
	for part := range partsOf(layout) {
		switch part {
		case "YYYY":
			years++
		case "MM", "M":
			months++
		case "DD", "D":
			days++
		default:
			if !mayBeBetween(part[0]) {
				return false
			}
			afterOneLetter = false
			continue
		}
		if afterOneLetter {
			return false
		}
		afterOneLetter = len(part) == 1
	}
	return years == 1 && months == 1 && days == 1
}

// mayBeBetween reports whether a byte that belongs to no field may be in a right layout.
func mayBeBetween(b byte) bool {
	return ' ' <= b && b <= '~' && !isDigit(b) && b != 'Y'
}

// isDigit reports whether a byte is a decimal digit.
func isDigit(b byte) bool {
	return '0' <= b && b <= '9'
}

// replaced returns a layout with what each gives in place of each of its parts.
func replaced(layout string, each func(string) string) string {
	var text strings.Builder
	for part := range partsOf(layout) {
		text.WriteString(each(part))
	}
	return text.String()
}

// civil is a date, or what was read as one.
type civil struct{ year, month, day int }

// written returns what stands for a part of a layout in the text of the date.
func (c civil) written(part string) string {
	switch part {
	case "YYYY":
		return padded(c.year, len(part))
	case "MM", "M":
		return padded(c.month, len(part))
	case "DD", "D":
		return padded(c.day, len(part))
	}
	return part
}

// padded returns the digits of a number that is not negative, with zeros in front to make at least so many.
func padded(number, least int) string {
	digits := strconv.Itoa(number)
	for len(digits) < least {
		digits = "0" + digits
	}
	return digits
}

// readAs returns what the fields of a right layout stand for in s. If s is not the text of a date in this layout, this is any date or none, so the caller has to compare s with the text of what is returned.
func readAs(layout, s string) civil {
	var found civil
	for part := range partsOf(layout) {
		switch part {
		case "YYYY":
			found.year, s = leadingNumber(s, 4)
		case "MM", "M":
			found.month, s = leadingNumber(s, 2)
		case "DD", "D":
			found.day, s = leadingNumber(s, 2)
		default:
			s = s[min(len(part), len(s)):]
		}
	}
	return found
}

// leadingNumber returns the number with at most so many digits with which s begins, and the rest of s; 0, if s begins with no digit.
func leadingNumber(s string, most int) (int, string) {
	number, length := 0, 0
	for length < min(most, len(s)) && isDigit(s[length]) {
		number = 10*number + int(s[length]-'0')
		length++
	}
	return number, s[length:]
}
