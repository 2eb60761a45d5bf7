package value

import (
	"strconv"
	"strings"

	"concord/api"
	"concord/date"
	"concord/decimal"
)

const (
	afterCell  = ",;]|" // what can follow a value that is neither a text nor a table
	afterNames = ";]"   // what can follow the names of a table's columns
)

// reader reads texts of values from the left to the right. It reads every string as if it were such a text, and gives any value for a string that is none: whoever uses it compares the text of the value with the string.
type reader struct{ rest string }

// take reads the next byte, if it is c, and reports whether it is.
func (r *reader) take(c byte) bool {
	if r.rest == "" || r.rest[0] != c {
		return false
	}
	r.rest = r.rest[1:]
	return true
}

// before reads up to the next one of some characters, or to the end.
func (r *reader) before(characters string) string {
	end := strings.IndexAny(r.rest, characters)
	if end < 0 {
		end = len(r.rest)
	}
	part := r.rest[:end]
	r.rest = r.rest[end:]
	return part
}

// values reads values with a separator between each two, but not more than most, each by a call of value.
func (r *reader) values(separator byte, most int, value func() api.Value) []api.Value {
	var l []api.Value
	for len(l) < most && (len(l) == 0 || r.take(separator)) {
		l = append(l, value())
	}
	return l
}

// value reads a value of any Kind.
func (r *reader) value() api.Value {
	if r.take(marks[api.Table]) {
		return r.table()
	}
	return r.cell()
}

// cell reads a value that is no table.
func (r *reader) cell() api.Value {
	if r.take(quote) {
		return api.Value{Kind: api.Text, S: r.text()}
	}
	kind := r.kind()
	part := r.before(afterCell)
	switch kind {
	case api.Number:
		d, _ := decimal.Parse(part)
		return api.Value{Kind: kind, D: d}
	case api.Date:
		n, _ := date.Parse(part)
		return api.Value{Kind: kind, N: n}
	}
	n, _ := strconv.Atoi(part)
	return api.Value{Kind: kind, N: n}
}

// kind reads the first character of a text, and returns the Kind of the value; -1, if there is none.
func (r *reader) kind() int {
	for kind := range len(marks) {
		if r.take(marks[kind]) {
			return kind
		}
	}
	return -1
}

// text reads a text after its first quote.
func (r *reader) text() string {
	var s []byte
	for {
		s = append(s, r.before(`'`)...)
		if !r.take(quote) || !r.take(quote) {
			return string(s)
		}
		s = append(s, quote)
	}
}

// table reads a table after its first character.
func (r *reader) table() api.Value {
	v := api.Value{Kind: api.Table}
	if names := r.before(afterNames); names != "" {
		v.Cols = strings.SplitN(names, ",", api.MaxCols+1)
	}
	for len(v.Rows) < api.MaxRows && r.take(startOfTableRow) {
		v.Rows = append(v.Rows, r.values(separatorInTable, len(v.Cols), r.cell))
	}
	r.take(endOfTable)
	return v
}
