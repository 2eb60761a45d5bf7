package abstract

import (
	"strconv"
	"strings"

	"concord/api"
	"concord/interval"
	"concord/shape"
)

// textOfPart returns the text of the part of a Kind of a canonical form that has it.
func textOfPart(a api.Abstract, kind int) string {
	switch kind {
	case api.Text:
		return "text(" + shape.Text(a.Texts) + ")"
	case api.Number:
		return "number(" + interval.Text(a.Numbers) + ")"
	case api.Date:
		return "date(" + textOfSpan(a.Dates) + ")"
	case api.Bool:
		return "bool(" + strconv.Itoa(a.Bools) + ")"
	}
	words := []string{textOfSpan(a.Rows), strings.Join(a.Cols, ",")}
	for _, d := range a.Deps {
		words = append(words, strings.Join(d.From, ",")+">"+d.To)
	}
	return "table(" + strings.Join(words, " ") + ")"
}

// textOfSpan returns the ends of s with .. between them.
func textOfSpan(s api.Span) string {
	return strconv.Itoa(s.Low) + ".." + strconv.Itoa(s.High)
}
