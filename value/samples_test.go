package value_test

import (
	"fmt"
	"math"
	"math/big"
	"regexp"
	"slices"
	"strconv"
	"strings"
	"time"

	"concord/api"
)

// The tests of this package call exported functions only. Texts are compared with those that fmt, math/big and time write, and with regular expressions. Samples come from a generator with a fixed start, so that each run tests the same ones.

// samples generates values and strings.
type samples struct{ state uint64 }

// below returns a number from 0 to n - 1 (splitmix64).
func (s *samples) below(n int) int {
	s.state += 0x9e3779b97f4a7c15
	z := s.state
	z = (z ^ z>>30) * 0xbf58476d1ce4e5b9
	z = (z ^ z>>27) * 0x94d049bb133111eb
	return int((z ^ z>>31) % uint64(n))
}

// element returns an element of l.
func element[T any](s *samples, l []T) T { return l[s.below(len(l))] }

func failed(n int) api.Value  { return api.Value{Kind: api.None, N: n} }
func text(s string) api.Value { return api.Value{Kind: api.Text, S: s} }
func number(n, scale int) api.Value {
	return api.Value{Kind: api.Number, D: api.Dec{N: n, Scale: scale}}
}
func day(n int) api.Value            { return api.Value{Kind: api.Date, N: n} }
func truth(n int) api.Value          { return api.Value{Kind: api.Bool, N: n} }
func names(names ...string) []string { return names }

func row(cells ...api.Value) []api.Value { return cells }

func table(cols []string, rows ...[]api.Value) api.Value {
	return api.Value{Kind: api.Table, Cols: cols, Rows: rows}
}

// The reference: what is right, and the texts of values.

var (
	nameForm = regexp.MustCompile(`^[A-Za-z]\w{0,19}$`)
	textForm = regexp.MustCompile(`^[ -~]{0,200}$`)
)

// fields returns all fields of a value as a string, from which they could be read again.
func fields(v api.Value) string {
	var rows strings.Builder
	for _, row := range v.Rows {
		fmt.Fprintf(&rows, "(%s)", allFields(row))
	}
	return fmt.Sprintf("{%d %q %d %d %q %s}", v.Kind, v.S, v.D, v.N, v.Cols, rows.String())
}

// allFields returns all fields of a list of values.
func allFields(l []api.Value) string {
	var text strings.Builder
	for _, v := range l {
		text.WriteString(fields(v))
	}
	return text.String()
}

// isRight reports whether v is right, without the help of the package.
func isRight(v api.Value) bool {
	bare, ok := api.Value{Kind: v.Kind}, false
	switch v.Kind {
	case 0:
		bare.N, ok = v.N, v.N >= 0 && v.N <= 99
	case 1:
		bare.S, ok = v.S, textForm.MatchString(v.S)
	case 2:
		bare.D, ok = v.D, isRightDecimal(v.D)
	case 3:
		bare.N, ok = v.N, v.N >= 0 && v.N <= 3652058
	case 4:
		bare.N, ok = v.N, v.N == 0 || v.N == 1
	case 5:
		bare.Cols, bare.Rows, ok = v.Cols, v.Rows, isRightTable(v)
	}
	return ok && fields(v) == fields(bare)
}

func isRightDecimal(d api.Dec) bool {
	return 0 <= d.Scale && d.Scale <= 6 && -1e15 <= d.N && d.N <= 1e15 && (d.Scale == 0 || !strings.HasSuffix(strconv.Itoa(d.N), "0"))
}

func isRightTable(v api.Value) bool {
	seen := map[string]bool{}
	for _, name := range v.Cols {
		if seen[name] || !nameForm.MatchString(name) {
			return false
		}
		seen[name] = true
	}
	for _, row := range v.Rows {
		for _, cell := range row {
			if cell.Kind == 5 || !isRight(cell) {
				return false
			}
		}
		if len(row) != len(v.Cols) {
			return false
		}
	}
	return len(v.Cols) <= 8 && len(v.Rows) <= 100
}

// textOf returns the text that v has, if it is right; any text for many others.
func textOf(v api.Value) string {
	switch v.Kind {
	case 0:
		return fmt.Sprintf("!%d", v.N)
	case 1:
		return "'" + strings.Join(strings.Split(v.S, "'"), "''") + "'"
	case 2:
		places := max(0, min(v.D.Scale, 20))
		unit := new(big.Int).Exp(big.NewInt(10), big.NewInt(int64(places)), nil)
		return "#" + new(big.Rat).SetFrac(big.NewInt(int64(v.D.N)), unit).FloatString(places)
	case 3:
		return "@" + time.Date(1, 1, 1+v.N, 0, 0, 0, 0, time.UTC).Format(time.DateOnly)
	case 4:
		return fmt.Sprintf("?%d", v.N)
	}
	lines := []string{strings.Join(v.Cols, ",")}
	for _, row := range v.Rows {
		lines = append(lines, textsOf(row, ","))
	}
	return "[" + strings.Join(lines, ";") + "]"
}

// textsOf returns the texts of values with a separator between each two.
func textsOf(l []api.Value, separator string) string {
	var texts []string
	for _, v := range l {
		texts = append(texts, textOf(v))
	}
	return strings.Join(texts, separator)
}

// wantedText returns what Text has to return for v.
func wantedText(v api.Value) string {
	if !isRight(v) {
		return ""
	}
	return textOf(v)
}

// The reference reads texts with regular expressions, which also match some strings that are no texts.

const (
	cellForm  = `(?:[!?][0-9]+|'(?:[^']|'')*'|#-?[0-9]+(?:\.[0-9]+)?|@[0-9-]+)`
	lineForm  = `(?:;(?:` + cellForm + `(?:,` + cellForm + `)*)?)`
	tableForm = `(?:\[[^;\]]*` + lineForm + `*\])`
	valueForm = `(?:` + cellForm + `|` + tableForm + `)`
)

var (
	wholeCell  = regexp.MustCompile(`(?s)` + cellForm)
	wholeLine  = regexp.MustCompile(`(?s)` + lineForm)
	wholeTable = regexp.MustCompile(`(?s)^\[([^;\]]*)(` + lineForm + `*)\]$`)
	wholeValue = regexp.MustCompile(`(?s)` + valueForm)
	wholeRow   = regexp.MustCompile(`(?s)^` + valueForm + `(?:\|` + valueForm + `)*$`)
)

// valueWith returns the right value with a text, if there is one.
func valueWith(s string) (api.Value, bool) {
	l, ok := rowWith(s)
	if !ok || len(l) != 1 {
		return api.Value{}, false
	}
	return l[0], true
}

// rowWith returns the right values with a text, if there are any.
func rowWith(s string) ([]api.Value, bool) {
	if s == "" {
		return nil, true
	}
	if !wholeRow.MatchString(s) {
		return nil, false
	}
	var l []api.Value
	for _, part := range wholeValue.FindAllString(s, -1) {
		l = append(l, valueIn(part))
	}
	if textsOf(l, "|") != s || len(l) > 8 || slices.ContainsFunc(l, func(v api.Value) bool { return !isRight(v) }) {
		return nil, false
	}
	return l, true
}

// valueIn returns the value in a string that has the form of a value.
func valueIn(s string) api.Value {
	inside := s[1:]
	switch s[0] {
	case '\'':
		return text(strings.ReplaceAll(inside[:len(inside)-1], "''", "'"))
	case '#':
		_, places, _ := strings.Cut(inside, ".")
		n, _ := strconv.Atoi(strings.Replace(inside, ".", "", 1))
		return number(n, len(places))
	case '@':
		moment, err := time.Parse(time.DateOnly, inside)
		if err != nil {
			return day(-1)
		}
		return day(int(moment.Unix()/86400) + 719162) // 1970-01-01 has this number
	case '[':
		return tableIn(s)
	}
	n, _ := strconv.Atoi(inside)
	return api.Value{Kind: map[byte]int{'!': api.None, '?': api.Bool}[s[0]], N: n}
}

// tableIn returns the table in a string that has the form of one.
func tableIn(s string) api.Value {
	parts := wholeTable.FindStringSubmatch(s)
	v := table(nil)
	if parts[1] != "" {
		v.Cols = strings.Split(parts[1], ",")
	}
	for _, line := range wholeLine.FindAllString(parts[2], -1) {
		var row []api.Value
		for _, cell := range wholeCell.FindAllString(line, -1) {
			row = append(row, valueIn(cell))
		}
		v.Rows = append(v.Rows, row)
	}
	return v
}

// The samples.

// word returns a text, short more often than not, of few characters, so that many are beginnings of others.
func (s *samples) word() string {
	length := s.below(5)
	if s.below(20) == 0 {
		length = 190 + s.below(11)
	}
	word := make([]byte, length)
	for i := range word {
		word[i] = "ab'|,;] ~#"[s.below(10)]
	}
	return string(word)
}

// decimal returns a right decimal.
func (s *samples) decimal() api.Value {
	scale := s.below(7)
	n := s.below(400) - 200
	switch s.below(4) {
	case 0:
		n = s.below(2e15+1) - 1e15
	case 1:
		n = s.below(9) - 4
	}
	if scale > 0 && n%10 == 0 {
		scale = 0
	}
	return number(n, scale)
}

// cell returns a right value that is no table.
func (s *samples) cell() api.Value {
	switch s.below(5) {
	case 0:
		return failed(s.below(100))
	case 1:
		return text(s.word())
	case 2:
		return s.decimal()
	case 3:
		return day(element(s, []int{0, 1, 31, 58, 59, 364, 365, 730178, 3652058, s.below(3652059)}))
	}
	return truth(s.below(2))
}

// cells returns a list of right values that are no tables.
func (s *samples) cells(length int) []api.Value {
	l := make([]api.Value, length)
	for i := range l {
		l[i] = s.cell()
	}
	return l
}

// table returns a right table, a small one more often than not.
func (s *samples) table() api.Value {
	v := table(nil)
	for range s.below(4) {
		if name := element(s, names("a", "b", "a1", "a_", "Ab", "zZ_9", strings.Repeat("n", 20))); !slices.Contains(v.Cols, name) {
			v.Cols = append(v.Cols, name)
		}
	}
	if s.below(20) == 0 {
		v.Cols = names("c", "d", "e", "f", "g", "h", "i", "j")
	}
	length := s.below(4)
	if s.below(40) == 0 {
		length = 98 + s.below(3)
	}
	for range length {
		v.Rows = append(v.Rows, s.cells(len(v.Cols)))
	}
	return v
}

// value returns a right value.
func (s *samples) value() api.Value {
	if s.below(3) == 0 {
		return s.table()
	}
	return s.cell()
}

// row returns a list of at most 9 right values.
func (s *samples) row() []api.Value {
	l := make([]api.Value, element(s, []int{0, 1, 1, 2, 2, 3, 4, 7, 8, 9}))
	for i := range l {
		l[i] = s.value()
	}
	return l
}

// change returns a value with one field changed, so that it is right no more, or another value, or one that differs deep inside.
func (s *samples) change(v api.Value) api.Value {
	switch s.below(8) {
	case 0:
		v.Kind = s.below(8) - 1
	case 1:
		v.S += string(rune(s.below(256)))
	case 2:
		v.N += element(s, []int{-1, 1, 100, -100, math.MaxInt})
	case 3:
		v.D.N = element(s, []int{v.D.N + 1, v.D.N - 1, 10 * v.D.N, 1e15 + 1})
	case 4:
		v.D.Scale += s.below(3) - 1
	case 5:
		v.Cols = append(slices.Clone(v.Cols), element(s, names("a", "", "x", "c", "1x")))
	case 6:
		v.Rows = append(slices.Clone(v.Rows), s.cells(len(v.Cols)))
	default:
		v.Rows = slices.Clone(v.Rows)
		if len(v.Rows) > 0 {
			i := s.below(len(v.Rows))
			v.Rows[i] = s.changeList(v.Rows[i])
		}
	}
	return v
}

// changeList returns a list with a value more or less, or with another one.
func (s *samples) changeList(l []api.Value) []api.Value {
	l = slices.Clone(l)
	switch at := s.below(len(l) + 1); {
	case at == len(l) || s.below(5) == 0:
		return append(l, s.value())
	case s.below(4) == 0:
		return slices.Delete(l, at, at+1)
	default:
		l[at] = s.change(l[at])
	}
	return l
}

// changeString returns a string with a byte more or less, or with another one.
func (s *samples) changeString(text string) string {
	at := s.below(len(text) + 1)
	other := string([]byte{element(s, []byte("!'#@?[],;|-.0129a \x00\x7f\xff\n"))})
	rest := text[at:]
	if rest != "" && s.below(3) > 0 {
		rest = rest[1:]
		if s.below(2) == 0 {
			other = ""
		}
	}
	return text[:at] + other + rest
}

// extremeInts returns ints at the ends of the type.
func extremeInts() []int {
	return []int{math.MinInt, math.MinInt + 1, -1 << 32, -1 << 31, 1 << 31, 1 << 32, math.MaxInt - 1, math.MaxInt}
}

// oneOfEachKind returns a right value of each Kind.
func oneOfEachKind() []api.Value {
	return []api.Value{failed(18), text("it's"), number(35, 1), day(730178), truth(1), table(names("a", "b"), row(text("x"), number(2, 0)))}
}

// valuesWithOtherFields returns values that are not right as one field is not empty that is not named for their Kind.
func valuesWithOtherFields() []api.Value {
	var l []api.Value
	for _, v := range append(oneOfEachKind(), failed(0), text(""), number(0, 0), day(0), truth(0), table(nil)) {
		if v.Kind != api.Text {
			other := v
			other.S = "x"
			l = append(l, other)
		}
		if v.Kind != api.Number {
			units, places := v, v
			units.D.N, places.D.Scale = 1, 1
			l = append(l, units, places)
		}
		if v.Kind == api.Text || v.Kind == api.Number || v.Kind == api.Table {
			more, less := v, v
			more.N, less.N = 1, -1
			l = append(l, more, less)
		}
		if v.Kind != api.Table {
			columns, rows, both := v, v, v
			columns.Cols, rows.Rows = names("a"), [][]api.Value{nil}
			both.Cols, both.Rows = names("a"), [][]api.Value{{text("x")}}
			l = append(l, columns, rows, both)
		}
	}
	return l
}

// valuesOutOfRange returns values whose fields are those of their Kind, but not right.
func valuesOutOfRange() []api.Value {
	l := []api.Value{
		failed(-1), failed(100), day(-1), day(3652059), truth(-1), truth(2),
		number(10, 1), number(0, 1), number(-500, 2), number(1, 7), number(1, -1), number(1e15+1, 0), number(-1e15-1, 0), number(1e15+1, 6), number(1e15, 1),
		text(strings.Repeat("a", 201)), text(strings.Repeat("'", 201)), text("a\x1f"), text("\x7fa"), text("\x00"), text("\n"), text("\x80"), text("ä"), text("a\xff"), text(strings.Repeat("a", 300)),
	}
	for kind := range 5 {
		for _, n := range extremeInts() {
			l = append(l, api.Value{Kind: kind, N: n}, api.Value{Kind: kind, D: api.Dec{N: 1, Scale: n}})
			if n < -1e15 || n > 1e15 {
				l = append(l, api.Value{Kind: kind, D: api.Dec{N: n}})
			}
		}
	}
	for _, kind := range append(extremeInts(), -1, 6, 7) {
		l = append(l, api.Value{Kind: kind}, api.Value{Kind: kind, N: 1}, api.Value{Kind: kind, S: "a"})
	}
	return l
}

// wrongTables returns tables that are not right.
func wrongTables() []api.Value {
	nine := names("a", "b", "c", "d", "e", "f", "g", "h", "i")
	l := []api.Value{
		table(nine), table(nine, make([]api.Value, 9)), table(names("a", "a")), table(names("a", "b", "a")), table(names("c", "a", "b", "b"), make([]api.Value, 4)),
		table(names("a"), nil), table(names("a"), row()), table(names("a"), row(text("x"), text("y"))), table(nil, row(text("x"))), table(names("a", "b"), row(text("x"))),
		table(names("a"), row(text("x")), row()), table(names("a"), row(text("x")), row(text("x"), failed(0))),
		table(names("a"), row(table(nil))), table(names("a", "b"), row(text("x"), table(names("a")))), table(names("a"), row(text("x")), row(table(names("a"), row(text("x"))))),
		table(names("a"), make([][]api.Value, 101)...), table(nil, make([][]api.Value, 101)...), table(nil, make([][]api.Value, 1000)...), table(names("a"), manyRows(101)...),
	}
	for _, name := range []string{"", "1", "_", "_a", "1a", "a-b", "a b", "a.b", " a", "a ", "ä", "aä", "a\x00", "a,b", "a;", "a]", "[", "'", "@", "`", "{", "a[", "a^", "a/", "a:", strings.Repeat("a", 21), strings.Repeat("a", 300)} {
		l = append(l, table(names(name)), table(names("b", name), row(text(""), text(""))))
	}
	for _, v := range append(valuesOutOfRange(), valuesWithOtherFields()...) {
		l = append(l, table(names("a"), row(v)), table(names("a", "b"), row(text("x"), failed(0)), row(text("x"), v)))
	}
	return l
}

// manyRows returns so many rows with one cell.
func manyRows(count int) [][]api.Value {
	var rows [][]api.Value
	for i := range count {
		rows = append(rows, row(number(i, 0)))
	}
	return rows
}

// wrongValues returns values that are not right.
func wrongValues() []api.Value {
	return slices.Concat(valuesOutOfRange(), valuesWithOtherFields(), wrongTables())
}

// rightAtTheEdge returns values that are just right.
func rightAtTheEdge() []api.Value {
	eight := names("a", "b", "c", "d", "e", "f", "g", "h")
	all := make([]byte, 0, 95)
	for c := byte(32); c <= 126; c++ {
		all = append(all, c)
	}
	return append(oneOfEachKind(),
		failed(0), failed(1), failed(99), day(0), day(1), day(3652058), truth(0), number(0, 0), number(1e15, 0), number(-1e15, 0), number(1e15-1, 6), number(-1e15+1, 6), number(1, 6), number(-1, 6), number(10, 0),
		text(""), text("'"), text("''"), text(string(all)), text(strings.Repeat("a", 200)), text(strings.Repeat("'", 200)), text(strings.Repeat(" ", 199)+"~"),
		table(nil), table(nil, nil), table(nil, nil, row(), nil), table(nil, make([][]api.Value, 100)...), table(eight), table(eight, make([]api.Value, 8)), table(names("a"), manyRows(100)...),
		table(names("a", "A", "aA", "z", "Z", "a0", "a9", "a_")), table(names(strings.Repeat("a", 20), strings.Repeat("Z", 19)+"_")),
		table(names("a"), row(failed(99)), row(failed(99)), row(text(";,|]['"))), table(names("a", "b"), row(text("x"), failed(0)), row(failed(0), day(5))),
	)
}
