package value

import (
	"strconv"

	"concord/api"
	"concord/date"
	"concord/decimal"
)

const (
	marks = "!'#@?[" // the first character of the text of a value, by its Kind
	quote = '\''     // around a text

	endOfTable       = ']'
	startOfTableRow  = ';'
	separatorInTable = ','
	separatorOfRow   = '|'
)

// appendText appends the text of a right value.
func appendText(text []byte, v api.Value) []byte {
	text = append(text, marks[v.Kind])
	switch v.Kind {
	case api.Text:
		return appendQuoted(text, v.S)
	case api.Number:
		return append(text, decimal.Text(v.D)...)
	case api.Date:
		return append(text, date.Text(v.N)...)
	case api.Table:
		return appendTable(text, v)
	}
	return strconv.AppendInt(text, int64(v.N), 10)
}

// appendQuoted appends s with each quote doubled, and a quote at its end.
func appendQuoted(text []byte, s string) []byte {
	for i := range len(s) {
		if s[i] == quote {
			text = append(text, quote)
		}
		text = append(text, s[i])
	}
	return append(text, quote)
}

// appendTable appends the columns and the rows of a table, and its end.
func appendTable(text []byte, v api.Value) []byte {
	for i, name := range v.Cols {
		if i > 0 {
			text = append(text, separatorInTable)
		}
		text = append(text, name...)
	}
	for _, row := range v.Rows {
		text = appendTexts(append(text, startOfTableRow), row, separatorInTable)
	}
	return append(text, endOfTable)
}

// appendTexts appends the texts of right values with a separator between each two.
func appendTexts(text []byte, l []api.Value, separator byte) []byte {
	for i, v := range l {
		if i > 0 {
			text = append(text, separator)
		}
		text = appendText(text, v)
	}
	return text
}
