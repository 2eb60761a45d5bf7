package oper_test

import (
	"fmt"
	"math"
	"slices"
	"strings"

	"concord/api"
	"concord/date"
	"concord/value"
)

// The tests of this package call exported functions only. Samples come from a generator with a fixed start, so that each run tests the same ones.

// samples generates operators with parameters, arguments, tables and rows.
type samples struct{ state uint64 }

// below returns a number from 0 to n - 1 (splitmix64).
func (s *samples) below(n int) int {
	s.state += 0x9e3779b97f4a7c15
	z := s.state
	z = (z ^ z>>30) * 0xbf58476d1ce4e5b9
	z = (z ^ z>>27) * 0x94d049bb133111eb
	return int((z ^ z>>31) % uint64(n))
}

// element returns an element of l.
func element[T any](s *samples, l []T) T { return l[s.below(len(l))] }

// some returns some elements of l, in any order.
func some[T any](s *samples, l []T) []T {
	l = slices.Clone(l)
	for i := range l {
		k := i + s.below(len(l)-i)
		l[i], l[k] = l[k], l[i]
	}
	return l[:s.below(len(l)+1)]
}

func failed(n int) api.Value               { return api.Value{Kind: api.None, N: n} }
func text(s string) api.Value              { return api.Value{Kind: api.Text, S: s} }
func day(n int) api.Value                  { return api.Value{Kind: api.Date, N: n} }
func truth(n int) api.Value                { return api.Value{Kind: api.Bool, N: n} }
func names(names ...string) []string       { return names }
func list(values ...api.Value) []api.Value { return values }
func number(n, scale int) api.Value {
	return api.Value{Kind: api.Number, D: api.Dec{N: n, Scale: scale}}
}
func tableOf(cols []string, rows ...[]api.Value) api.Value {
	return api.Value{Kind: api.Table, Cols: cols, Rows: rows}
}

// of returns the values with a text such as 'a'|#1.
func of(s string) []api.Value {
	l, ok := value.ReadRow(s)
	if !ok {
		panic(s)
	}
	return l
}

// lookup returns the lookup table with a name, and the columns and rows of a text.
func lookup(name, s string) api.Lookup {
	v := of(s)[0]
	return api.Lookup{Name: name, Cols: v.Cols, Rows: v.Rows}
}

// columns returns columns whose names have one letter, and whose kinds are digits: a1b2 for a text a and a number b.
func columns(s string) []api.Column {
	var l []api.Column
	for ; s != ""; s = s[2:] {
		l = append(l, api.Column{Name: s[:1], Kind: int(s[1] - '0')})
	}
	return l
}

// fields returns all fields of a value as a string, from which they could be read again.
func fields(v api.Value) string {
	var b strings.Builder
	writeFields(&b, v)
	return b.String()
}

func writeFields(b *strings.Builder, v api.Value) {
	fmt.Fprintf(b, "{%d %q %d %d %q %d", v.Kind, v.S, v.D, v.N, v.Cols, len(v.Rows))
	for _, cells := range v.Rows {
		b.WriteByte('(')
		for _, cell := range cells {
			writeFields(b, cell)
		}
		b.WriteByte(')')
	}
	b.WriteByte('}')
}

// allFields returns all fields of values.
func allFields(l []api.Value) string {
	var b strings.Builder
	for _, v := range l {
		writeFields(&b, v)
	}
	return b.String()
}

// fieldsOfLookups returns all fields of lookup tables.
func fieldsOfLookups(l []api.Lookup) string {
	var b strings.Builder
	for _, t := range l {
		fmt.Fprintf(&b, "%q ", t.Name)
		writeFields(&b, tableOf(t.Cols, t.Rows...))
	}
	return b.String()
}

// The samples of values.

// valuesOfKind returns right values of a Kind, few of them, so that many are equal. There are no tables among them.
func valuesOfKind(kind int) []api.Value {
	switch kind {
	case api.Text:
		return list(text(""), text("a"), text("ab"), text("a1b23"), text(" a B "), text("12"), text("-1.5"), text("1.50"), text("2.1.0001"), text("0001-02-03"), text("Ab-7"), text(strings.Repeat("x", 199)), text(strings.Repeat("7z", 100)))
	case api.Number:
		return list(number(0, 0), number(1, 0), number(-1, 0), number(2, 0), number(15, 1), number(-25, 2), number(1, 6), number(123456789, 6), number(1e15, 0), number(-1e15, 0), number(3652058, 0), number(999999999999999, 6))
	case api.Date:
		return list(day(0), day(1), day(33), day(700000), day(3652057), day(3652058))
	case api.Bool:
		return list(truth(0), truth(1))
	}
	return list(failed(0), failed(1), failed(18), failed(99))
}

// wrongValues returns values that are not right, each for another reason.
func wrongValues() []api.Value {
	x := text("x")
	return list(
		api.Value{Kind: 6}, api.Value{Kind: -1}, api.Value{Kind: math.MaxInt}, api.Value{Kind: math.MinInt},
		text("\n"), text("é"), text(strings.Repeat("x", 201)), api.Value{Kind: api.Text, S: "x", N: 1}, api.Value{Kind: api.Text, D: api.Dec{N: 1}},
		number(10, 1), number(0, 1), number(1, -1), number(1, 7), number(1e15+1, 0), number(math.MinInt, 0), api.Value{Kind: api.Number, N: 1}, api.Value{Kind: api.Number, S: "1"},
		day(-1), day(3652059), day(math.MaxInt), api.Value{Kind: api.Date, N: 5, S: "x"}, truth(2), truth(-1), truth(math.MinInt), api.Value{Kind: api.Bool, N: 1, Rows: [][]api.Value{nil}},
		tableOf(names("9")), tableOf(names("a", "a")), tableOf(names("a"), nil), tableOf(names("a"), list(x, x)), tableOf(names("a"), list(text("\n"))), tableOf(names("a"), list(tableOf(nil))), tableOf(nil, make([][]api.Value, 101)...), api.Value{Kind: api.Table, Cols: names("a"), N: 1},
	)
}

// wrongFailures returns values of the Kind None that are not right.
func wrongFailures() []api.Value {
	return list(failed(-1), failed(100), failed(math.MaxInt), failed(math.MinInt), api.Value{Kind: api.None, S: "x"}, api.Value{Kind: api.None, N: 18, Cols: names("a")}, api.Value{Kind: api.None, N: 20, D: api.Dec{N: 1}}, api.Value{Kind: api.None, Rows: [][]api.Value{nil}})
}

// columnNames returns names of columns of tables.
func columnNames() []string { return names("a", "b", "c", "d", "e", "A", "b_1", "zz") }

// rows returns so many rows for so many columns; each column has cells of one kind, in half of the columns or more the usual one, some of them empty.
func (s *samples) rows(columns, count, usual int) [][]api.Value {
	var rows [][]api.Value
	var kinds []int
	for range columns {
		kinds = append(kinds, element(s, []int{1, 2, 3, 4, usual, usual, usual, usual}))
	}
	for range count {
		var cells []api.Value
		for _, kind := range kinds {
			if s.below(12) == 0 {
				kind = api.None
			}
			cells = append(cells, element(s, valuesOfKind(kind)[:2]))
		}
		rows = append(rows, cells)
	}
	return rows
}

// table returns a right table, many of them with few columns and few different cells.
func (s *samples) table() api.Value {
	cols := some(s, columnNames()[:element(s, []int{2, 3, 4, 8})])
	if s.below(3) > 0 {
		cols = names("a", "b", "c", "d")[s.below(2):][:1+s.below(3)]
	}
	rows := s.rows(len(cols), s.below(element(s, []int{4, 5, 12})), element(s, []int{api.Text, api.Number, api.Number}))
	if s.below(8) == 0 && len(rows) > 0 && len(cols) > 0 {
		rows[s.below(len(rows))][s.below(len(cols))] = element(s, valuesOfKind(s.below(5)))
	}
	return tableOf(cols, rows...)
}

// value returns a right value of a kind; any value for other ints.
func (s *samples) value(kind int) api.Value {
	if kind == api.Table {
		return s.table()
	}
	return element(s, valuesOfKind(kind))
}

// otherValue returns a value that may be of another kind, or not be right.
func (s *samples) otherValue(kind int) api.Value {
	switch s.below(12) {
	case 0:
		return element(s, valuesOfKind(api.None))
	case 1:
		return element(s, wrongFailures())
	case 2:
		return element(s, wrongValues())
	case 3, 4:
		return s.value(s.below(6))
	}
	return s.value(kind)
}

// The samples of tables and rows.

// base returns lookup tables, some of them not right, some with the same name.
func (s *samples) base() []api.Lookup {
	var l []api.Lookup
	for range s.below(5) {
		cols := some(s, names("a", "b", "c", "b_1"))
		if len(cols) == 0 {
			cols = names("a", "b")
		}
		t := api.Lookup{Name: element(s, names("t", "t", "u", "u_1", "T")), Cols: cols, Rows: s.rows(len(cols), s.below(6), api.Text)}
		switch s.below(18) {
		case 0:
			t.Name = element(s, names("", "9", "t.u", "bad name"))
		case 1:
			if len(t.Rows) > 0 {
				t.Rows[0] = append(t.Rows[0], text("x"))
			}
		case 2:
			if len(cols) > 0 {
				t.Cols = append(cols, cols[0])
			}
		}
		l = append(l, t)
	}
	return l
}

// columns returns columns of rows, some of them with the same name, or of a kind that does not exist.
func (s *samples) columns() []api.Column {
	var l []api.Column
	for range s.below(5) {
		c := api.Column{Name: element(s, columnNames()[:4]), Kind: s.below(6)}
		if s.below(12) == 0 {
			c.Kind = element(s, []int{-1, 6, 77, math.MaxInt, math.MinInt})
		}
		if s.below(12) == 0 {
			c.Name = element(s, names("", "9", "a b"))
		}
		l = append(l, c)
	}
	return l
}

// row returns a row for columns, not always one that fits.
func (s *samples) row(cols []api.Column) []api.Value {
	var l []api.Value
	other := s.below(3) == 0
	for _, c := range cols {
		switch {
		case other:
			l = append(l, s.otherValue(c.Kind))
		case s.below(6) == 0:
			l = append(l, element(s, valuesOfKind(api.None)))
		default:
			l = append(l, s.value(c.Kind))
		}
	}
	if s.below(20) == 0 {
		l = append(l, text("x"))
	}
	if s.below(20) == 0 && len(l) > 0 {
		l = l[1:]
	}
	return l
}

// The samples of parameters.

// decimals returns texts of decimals, and some strings like them.
func decimals() []string {
	return names("0", "1", "-1", "-2.5", "0.000001", "12.05", "-1000000000000000", "1000000000000000", "999999999.999999", "-0", "1.0", "01", "+1", "1.", ".5", "", "1000000000000001", "0.0000001", "1e3", " 1", "1 ", "--1", "1.2.3", "1000000000.000001")
}

// patterns returns written forms of patterns, and some strings like them.
func patterns() []string {
	return names(`\.`, `\.+`, `\d`, `\l`, `\a\d*`, `\.{1,2}`, "", `\d+`, `\d`, `a`, `a+`, `\a*\d{2}`, `\u\l*`, `\.{3,7}`, `#`, `#\d`, `a#1`, `\s`, `\o{2,200}`, `\\`, `\+\*\{\}`, `it's`, strings.Repeat("a", 60), strings.Repeat("a", 61), `\d{1}`, `\d{1,1}`, `\d{1,200}`, `\d{0,200}`, `\d{0}`, `\d{2,2}`, `\d{3,2}`, `\d{201}`, `\d{02}`, `\x`, `\`, `{`, "é", "\n", `\d{`, `\d{2`, `\d{,2}`, `\d{0,1}`, `\d{200}`, `\d{0,199}`)
}

// layouts returns layouts, and some strings like them.
func layouts() []string {
	return names("YYYY-MM-DD", "D.M.YYYY", "DD.MM.YYYY", "YYYYMMDD", "M/D YYYY", "day D of month M in YYYY"[4:], "YYYY", "", "D.M", "DMYYYY", "YYYY-MM-DD1", "YY-MM-DD", "MMM DD YYYY", "D.M.YYYY\n", strings.Repeat("-", 32)+"YYYYMMDD", strings.Repeat("-", 33)+"YYYYMMDD", "D.M.YYYY.D", "é D.M.YYYY")
}

// kindNames returns names of kinds, and some strings like them.
func kindNames() []string {
	return names("text", "number", "date", "bool", "table", "text", "number", "date", "bool", "table", "", "none", "Text", "texts", "1", "text ", "tex")
}

// someNames returns names, and some strings like them.
func someNames() []string {
	return names("a", "b", "c", "d", "t", "u", "a", "b", "c", "b_1", "A", "zz", "none", strings.Repeat("n", 20), strings.Repeat("n", 21), "", "9", "_", "a b", "é", "a,b", "a.b")
}

// join returns so many elements of l with a separator between each two.
func (s *samples) join(count int, separator string, l []string) string {
	var parts []string
	for range count {
		parts = append(parts, element(s, l))
	}
	return strings.Join(parts, separator)
}

// parameter returns a parameter for an operator, most often one that has its form.
func (s *samples) parameter(op string) string {
	columnNames := columnNames()[:element(s, []int{2, 3, 3, 3, 8})]
	if s.below(5) == 0 {
		columnNames = someNames()
	}
	switch op {
	case "col", "where", "join":
		return element(s, columnNames)
	case "table":
		return element(s, names("t", "t", "u", "u_1", "T", "x", "t.u", "bad name", "", "9"))
	case "text":
		return element(s, names("", "a", "it's", strings.Repeat("~", 200), strings.Repeat("x", 201), "é", "\n", "\x7f", "\x1f", " "))
	case "number":
		return element(s, decimals())
	case "date":
		return element(s, names("0001-01-01", "9999-12-31", "2024-02-29", "2023-02-29", "2024-2-29", "", "10000-01-01", "0000-01-01", "2024-02-29 ", "2024/02/29"))
	case "bool":
		return element(s, names("0", "1", "0", "1", "", "2", "true", "00", "?1"))
	case "extract":
		return element(s, patterns()) + element(s, names("#", "#", "#", "#", "#", "", "##")) + element(s, names("1", "1", "1", "1", "2", "2", "3", "20", "21", "0", "", "01", "+1", "-1", "10"))
	case "round":
		return element(s, names("0", "1", "2", "3", "4", "5", "6", "7", "", "-1", "00", "+1", "9", "10", " 1"))
	case "read", "show":
		return element(s, layouts())
	case "equal", "if":
		return element(s, kindNames())
	case "match":
		return element(s, patterns())
	case "lookup":
		return element(s, names("t", "t", "u", "u_1", "T", "x", "", "bad name")) + "." + s.join(element(s, []int{2, 2, 2, 2, 2, 1, 3}), ".", columnNames[:min(4, len(columnNames))]) + ":" + element(s, kindNames())
	case "pick":
		return strings.Join(some(s, columnNames), ",") + element(s, names("", "", "", "", ",a", ",", " "))
	case "sum":
		return element(s, columnNames) + element(s, names(">=", ">=", ">=", ">=", ">=", ">=", ">", "", ":")) + element(s, decimals()[:16])
	case "first":
		return element(s, columnNames) + element(s, names(":", ":", ":", ":", ":", ":", "::", "", ".")) + element(s, kindNames()[:12])
	}
	return element(s, names("", "", "", "", "", "", "", "", "a", " ", "0"))
}

// changed returns a string with one byte more, less, or another one.
func (s *samples) changed(x string) string {
	at := s.below(len(x) + 1)
	c := string(element(s, []byte("a9.:,#>= -{}\\+\x00\xff")))
	switch s.below(3) {
	case 0:
		return x[:at] + c + x[at:]
	case 1:
		return x[:at] + c + x[min(at+1, len(x)):]
	}
	return x[:at] + x[min(at+1, len(x)):]
}

// columnsOf returns a parameter of lookup for a table, most often with the kind that its cells have.
func (s *samples) columnsOf(t api.Lookup) string {
	col, kind := element(s, append(t.Cols, "x")), element(s, kindNames())
	if at := slices.Index(t.Cols, col); at >= 0 && s.below(4) > 0 {
		for _, cells := range t.Rows {
			if at < len(cells) && cells[at].Kind != api.None {
				kind = kindNames()[cells[at].Kind-1]
			}
		}
	}
	return t.Name + "." + element(s, append(t.Cols, "a")) + "." + col + ":" + kind
}

// call is what a call of Apply has as arguments.
type call struct {
	op, param string
	args      []api.Value
	base      []api.Lookup
	cols      []api.Column
	row       []api.Value
}

// call returns a call of an operator, most often one with a result.
func (s *samples) call(op string) call {
	c := call{op: op, param: s.parameter(op), base: s.base(), cols: s.columns()}
	if op == "lookup" && len(c.base) > 0 && s.below(5) > 0 {
		c.param = s.columnsOf(element(s, c.base))
	}
	if s.below(12) == 0 {
		c.param = s.changed(c.param)
	}
	c.row = s.row(c.cols)
	kinds, _, e := wantedTypes(c.op, c.param, c.base, c.cols)
	if e != api.OK {
		kinds = []int{1 + s.below(5), 1 + s.below(5)}
	}
	other := s.below(3) == 0
	for _, kind := range kinds {
		if other {
			c.args = append(c.args, s.otherValue(kind))
		} else {
			c.args = append(c.args, s.value(kind))
		}
	}
	if cells := c.cellsToFind(); len(cells) > 0 && s.below(4) > 0 {
		c.args[len(c.args)-1] = element(s, cells)
	}
	if op == "read" && len(c.args) == 1 && s.below(2) == 0 {
		c.args[0].S, _ = date.Format(c.param, s.value(api.Date).N)
	}
	switch s.below(24) {
	case 0:
		c.args = append(c.args, s.value(s.below(6)))
	case 1:
		c.args = c.args[:s.below(len(c.args)+1)]
	}
	return c
}

// cellsToFind returns the texts that lookup or where could find in a table.
func (c call) cellsToFind() []api.Value {
	var rows [][]api.Value
	switch name, _, _ := readsOf(c.op, c.param); {
	case c.op == "lookup" && len(c.args) == 1:
		t, _ := tableNamed(c.base, name)
		rows = t.Rows
	case c.op == "where" && len(c.args) == 2:
		rows = c.args[0].Rows
	}
	return slices.DeleteFunc(slices.Concat(rows...), func(v api.Value) bool { return v.Kind != api.Text })
}

// someCalls returns so many calls of each operator, and some of what is no operator.
func someCalls(count int, state uint64) []call {
	s := &samples{state: state}
	var l []call
	for _, op := range append(operators(), "", "Col", "col ", "multiply") {
		for range count {
			l = append(l, s.call(op))
		}
	}
	return l
}

// String returns all fields of a call.
func (c call) String() string {
	var cols strings.Builder
	for _, col := range c.cols {
		fmt.Fprintf(&cols, "%q %d ", col.Name, col.Kind)
	}
	return fmt.Sprintf("%q %q (%s) base: %s columns: %srow: %s", c.op, c.param, allFields(c.args), fieldsOfLookups(c.base), cols.String(), allFields(c.row))
}
