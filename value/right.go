package value

import (
	"slices"

	"concord/api"
)

const (
	maxError = 99
	maxName  = 20 // bytes of a name

	firstCharacter = ' '
	lastCharacter  = '~'
)

// hasOnlyFieldsOfKind reports whether all fields that are not named for the Kind of v are zero or empty.
func hasOnlyFieldsOfKind(v api.Value) bool {
	switch v.Kind {
	case api.None, api.Date, api.Bool:
		v.N = 0
	case api.Text:
		v.S = ""
	case api.Number:
		v.D = api.Dec{}
	case api.Table:
		v.Cols, v.Rows = nil, nil
	}
	return v.S == "" && v.D == api.Dec{} && v.N == 0 && len(v.Cols) == 0 && len(v.Rows) == 0
}

// isText reports whether s is a text.
func isText(s string) bool {
	if len(s) > api.MaxText {
		return false
	}
	for i := range len(s) {
		if s[i] < firstCharacter || s[i] > lastCharacter {
			return false
		}
	}
	return true
}

// isName reports whether s is a name.
func isName(s string) bool {
	if s == "" || len(s) > maxName || !isLetter(s[0]) {
		return false
	}
	for i := range len(s) {
		if !isLetter(s[i]) && !isDigit(s[i]) && s[i] != '_' {
			return false
		}
	}
	return true
}

func isLetter(c byte) bool {
	return 'a' <= c && c <= 'z' || 'A' <= c && c <= 'Z'
}

func isDigit(c byte) bool {
	return '0' <= c && c <= '9'
}

// areColumns reports whether a table can have these columns: at most MaxCols different names.
func areColumns(cols []string) bool {
	if len(cols) > api.MaxCols {
		return false
	}
	for i, name := range cols {
		if !isName(name) || slices.Contains(cols[:i], name) {
			return false
		}
	}
	return true
}

// areRows reports whether a table with so many columns can have these rows.
func areRows(rows [][]api.Value, columns int) bool {
	if len(rows) > api.MaxRows {
		return false
	}
	for _, row := range rows {
		if len(row) != columns || slices.ContainsFunc(row, isTable) || !allRight(row) {
			return false
		}
	}
	return true
}

func isTable(v api.Value) bool {
	return v.Kind == api.Table
}

// allRight reports whether all values are right.
func allRight(l []api.Value) bool {
	for _, v := range l {
		if !Right(v) {
			return false
		}
	}
	return true
}

// fitsColumn reports whether a row can have v in a column.
func fitsColumn(column api.Column, v api.Value) bool {
	return Right(v) && (v.Kind == column.Kind || v.Kind == api.None)
}

// equalRows reports whether two rows have equal values.
func equalRows(a, b []api.Value) bool {
	return slices.EqualFunc(a, b, Equal)
}

// copyRow returns a row that is equal to another one, and shares no memory with it.
func copyRow(row []api.Value) []api.Value {
	row = slices.Clone(row)
	for i, v := range row {
		row[i] = Copy(v)
	}
	return row
}
