package table_test

import (
	"fmt"
	"math"
	"math/big"
	"slices"
	"strings"

	"concord/api"
	"concord/value"
)

// The tests of this package call exported functions only. Results are compared with those of an implementation of their own, which compares rows pair by pair, and adds with math/big. Samples come from a generator with a fixed start, so that each run tests the same ones.

// samples generates tables, rows and dependencies.
type samples struct{ state uint64 }

// below returns a number from 0 to n - 1 (splitmix64).
func (s *samples) below(n int) int {
	s.state += 0x9e3779b97f4a7c15
	z := s.state
	z = (z ^ z>>30) * 0xbf58476d1ce4e5b9
	z = (z ^ z>>27) * 0x94d049bb133111eb
	return int((z ^ z>>31) % uint64(n))
}

// element returns an element of l.
func element[T any](s *samples, l []T) T { return l[s.below(len(l))] }

func failed(n int) api.Value  { return api.Value{Kind: api.None, N: n} }
func text(s string) api.Value { return api.Value{Kind: api.Text, S: s} }
func number(n, scale int) api.Value {
	return api.Value{Kind: api.Number, D: api.Dec{N: n, Scale: scale}}
}
func day(n int) api.Value            { return api.Value{Kind: api.Date, N: n} }
func truth(n int) api.Value          { return api.Value{Kind: api.Bool, N: n} }
func names(names ...string) []string { return names }

func row(cells ...api.Value) []api.Value { return cells }

func tableOf(cols []string, rows ...[]api.Value) api.Value {
	return api.Value{Kind: api.Table, Cols: cols, Rows: rows}
}

func lookup(name string, cols []string, rows ...[]api.Value) api.Lookup {
	return api.Lookup{Name: name, Cols: cols, Rows: rows}
}

// dep returns a dependency whose From has a name of each character of a string.
func dep(from, to string) api.Dep {
	return api.Dep{From: letters(from), To: to}
}

// letters returns a name of each character of a string.
func letters(s string) []string {
	if s == "" {
		return nil
	}
	return strings.Split(s, "")
}

// ofTable returns the table with a text.
func ofTable(s string) api.Value {
	v, ok := value.Read(s)
	if !ok {
		panic(s)
	}
	return v
}

// cities is the table of the examples.
func cities() api.Lookup {
	v := ofTable("[city,zip,country;'Rome',#1,'it';'Oslo',#2,'no';'Bergen',#3,'no']")
	return lookup("t", v.Cols, v.Rows...)
}

// fields returns all fields of a value as a string, from which they could be read again.
func fields(v api.Value) string {
	var b strings.Builder
	writeFields(&b, v)
	return b.String()
}

func writeFields(b *strings.Builder, v api.Value) {
	fmt.Fprintf(b, "{%d %q %d %d %q %d", v.Kind, v.S, v.D, v.N, v.Cols, len(v.Rows))
	for _, cells := range v.Rows {
		b.WriteByte('(')
		for _, cell := range cells {
			writeFields(b, cell)
		}
		b.WriteByte(')')
	}
	b.WriteByte('}')
}

// fieldsOfRows returns all fields of rows.
func fieldsOfRows(rows [][]api.Value) string { return fields(tableOf(nil, rows...)) }

// fieldsOfLookup returns all fields of a lookup table.
func fieldsOfLookup(t api.Lookup) string {
	return fmt.Sprintf("%q %s", t.Name, fields(tableOf(t.Cols, t.Rows...)))
}

// fieldsOfLookups returns all fields of lookup tables.
func fieldsOfLookups(l []api.Lookup) string {
	var parts []string
	for _, t := range l {
		parts = append(parts, fieldsOfLookup(t))
	}
	return strings.Join(parts, "\n")
}

// fieldsOfDeps returns all fields of dependencies.
func fieldsOfDeps(l []api.Dep) string {
	var parts []string
	for _, d := range l {
		parts = append(parts, fmt.Sprintf("%q>%q", d.From, d.To))
	}
	return strings.Join(parts, " ")
}

// same reports whether two values have equal fields.
func same(a, b api.Value) bool { return fields(a) == fields(b) }

// The reference.

// isName reports whether s is a name.
func isName(s string) bool {
	const first = "abcdefghijklmnopqrstuvwxyzABCDEFGHIJKLMNOPQRSTUVWXYZ"
	for i, c := range []byte(s) {
		if !strings.Contains(first, string([]byte{c})) && (i == 0 || !strings.Contains("0123456789_", string([]byte{c}))) {
			return false
		}
	}
	return s != "" && len(s) < 21
}

// isRightTable reports whether v is a right value of the Kind Table.
func isRightTable(v api.Value) bool {
	return v.Kind == 5 && value.Right(v)
}

// isRight reports whether a lookup table is right.
func isRight(t api.Lookup) bool {
	if !isName(t.Name) || len(t.Cols) == 0 || !isRightTable(tableOf(t.Cols, t.Rows...)) {
		return false
	}
	for i := range t.Cols {
		for _, x := range t.Rows {
			for _, y := range t.Rows {
				if x[i].Kind != 0 && y[i].Kind != 0 && x[i].Kind != y[i].Kind {
					return false
				}
			}
		}
	}
	return true
}

// place returns the index of the first column with a name, or -1.
func place(cols []string, name string) int {
	for i, other := range cols {
		if other == name {
			return i
		}
	}
	return -1
}

// isValue reports whether a cell is v.
func isValue(cell, v api.Value) bool { return cell.Kind != 0 && same(cell, v) }

func wantedFind(t api.Lookup, key string, v api.Value, col string) (api.Value, api.Errno) {
	i, k := place(t.Cols, key), place(t.Cols, col)
	if !isRight(t) {
		return api.Value{}, 1
	}
	if i == -1 || k == -1 {
		return api.Value{}, 13
	}
	for _, cells := range t.Rows {
		if isValue(cells[i], v) {
			if cells[k].Kind == 0 {
				break
			}
			return cells[k], 0
		}
	}
	return api.Value{}, 18
}

func wantedWhere(t api.Value, col string, v api.Value) (api.Value, api.Errno) {
	i := place(t.Cols, col)
	if !isRightTable(t) {
		return api.Value{}, 14
	}
	if i == -1 {
		return api.Value{}, 13
	}
	var rows [][]api.Value
	for _, cells := range t.Rows {
		if isValue(cells[i], v) {
			rows = append(rows, cells)
		}
	}
	return tableOf(t.Cols, rows...), 0
}

func wantedPick(t api.Value, cols []string) (api.Value, api.Errno) {
	if !isRightTable(t) {
		return api.Value{}, 14
	}
	seen := map[string]bool{}
	rows := make([][]api.Value, len(t.Rows))
	for _, name := range cols {
		i := place(t.Cols, name)
		if i == -1 || seen[name] {
			return api.Value{}, 13
		}
		seen[name] = true
		for k := range rows {
			rows[k] = append(rows[k], t.Rows[k][i])
		}
	}
	return tableOf(cols, rows...), 0
}

func wantedJoin(a, b api.Value, col string) (api.Value, api.Errno) {
	if !isRightTable(a) || !isRightTable(b) {
		return api.Value{}, 14
	}
	i, k := place(a.Cols, col), place(b.Cols, col)
	if i == -1 || k == -1 {
		return api.Value{}, 13
	}
	cols := slices.Clone(a.Cols)
	for _, name := range b.Cols {
		if name == col {
			continue
		}
		if place(a.Cols, name) != -1 {
			return api.Value{}, 13
		}
		cols = append(cols, name)
	}
	var rows [][]api.Value
	for _, x := range a.Rows {
		for _, y := range b.Rows {
			if !isValue(y[k], x[i]) {
				continue
			}
			cells := slices.Clone(x)
			for n, cell := range y {
				if n != k {
					cells = append(cells, cell)
				}
			}
			rows = append(rows, cells)
		}
	}
	if len(cols) > 8 || len(rows) > 100 {
		return api.Value{}, 2
	}
	return tableOf(cols, rows...), 0
}

// rational returns the value of a decimal, 0 for one that is not right.
func rational(d api.Dec) *big.Rat {
	if !value.Right(api.Value{Kind: api.Number, D: d}) {
		return new(big.Rat)
	}
	unit := new(big.Int).Exp(big.NewInt(10), big.NewInt(int64(d.Scale)), nil)
	return new(big.Rat).SetFrac(big.NewInt(int64(d.N)), unit)
}

// decimalOf returns the right decimal with a value, if there is one.
func decimalOf(r *big.Rat) (api.Dec, bool) {
	for scale := range 7 {
		unit := new(big.Int).Exp(big.NewInt(10), big.NewInt(int64(scale)), nil)
		units := new(big.Rat).Mul(r, new(big.Rat).SetInt(unit))
		if units.IsInt() {
			return api.Dec{N: int(units.Num().Int64()), Scale: scale}, units.Num().CmpAbs(big.NewInt(1e15)) <= 0
		}
	}
	return api.Dec{}, false
}

func wantedSum(t api.Value, col string, least api.Dec) (api.Value, api.Errno) {
	i := place(t.Cols, col)
	if !isRightTable(t) {
		return api.Value{}, 14
	}
	if i == -1 {
		return api.Value{}, 13
	}
	sum := new(big.Rat)
	for _, cells := range t.Rows {
		if cells[i].Kind != 2 {
			return api.Value{}, 14
		}
		sum.Add(sum, rational(cells[i].D))
		if _, ok := decimalOf(sum); !ok {
			return api.Value{}, 3
		}
		if sum.Cmp(rational(least)) < 0 {
			return api.Value{}, 20
		}
	}
	d, _ := decimalOf(sum)
	return api.Value{Kind: 2, D: d}, 0
}

// haveLength reports whether all rows have so many cells.
func haveLength(rows [][]api.Value, length int) bool {
	for _, cells := range rows {
		if len(cells) != length {
			return false
		}
	}
	return true
}

// wantedHolds compares all pairs of rows.
func wantedHolds(cols []string, rows [][]api.Value, d api.Dep) bool {
	to := place(cols, d.To)
	if to == -1 || !haveLength(rows, len(cols)) {
		return false
	}
	for _, name := range d.From {
		if place(cols, name) == -1 {
			return false
		}
	}
	for _, x := range rows {
		for _, y := range rows {
			alike := true
			for _, name := range d.From {
				i := place(cols, name)
				alike = alike && same(x[i], y[i])
			}
			if alike && !same(x[to], y[to]) {
				return false
			}
		}
	}
	return true
}

// wantedClosure goes through all dependencies until nothing new is found.
func wantedClosure(l []api.Dep, from []string) []string {
	known := slices.Clone(from)
	for count := -1; count < len(known); {
		count = len(known)
		for _, d := range l {
			all := true
			for _, name := range d.From {
				all = all && place(known, name) != -1
			}
			if all && place(known, d.To) == -1 {
				known = append(known, d.To)
			}
		}
	}
	slices.Sort(known)
	return slices.Compact(known)
}

// wantedKeys tries all sets of at most two columns.
func wantedKeys(cols []string, rows [][]api.Value) []api.Dep {
	for i, name := range cols {
		if place(cols, name) != i {
			return nil
		}
	}
	if !haveLength(rows, len(cols)) {
		return nil
	}
	sets := [][]string{nil}
	for _, name := range cols {
		sets = append(sets, names(name))
	}
	for i, name := range cols {
		for _, other := range cols[i+1:] {
			sets = append(sets, names(name, other))
		}
	}
	var keys [][]string
	var l []api.Dep
	for _, set := range sets {
		if !isKey(cols, rows, set) || slices.ContainsFunc(keys, func(key []string) bool { return isPart(key, set) }) {
			continue
		}
		keys = append(keys, set)
		for _, name := range cols {
			if place(set, name) == -1 {
				l = append(l, api.Dep{From: set, To: name})
			}
		}
	}
	return l
}

// isKey reports whether all columns depend on a set of them.
func isKey(cols []string, rows [][]api.Value, set []string) bool {
	for _, name := range cols {
		if !wantedHolds(cols, rows, api.Dep{From: set, To: name}) {
			return false
		}
	}
	return true
}

// isPart reports whether all elements of a are in b.
func isPart(a, b []string) bool {
	for _, name := range a {
		if place(b, name) == -1 {
			return false
		}
	}
	return true
}

func wantedSet(b []api.Lookup, t api.Lookup) ([]api.Lookup, api.Errno) {
	if !isRight(t) {
		return nil, 1
	}
	var smaller, greater []api.Lookup
	for _, other := range b {
		if other.Name < t.Name {
			smaller = append(smaller, other)
		}
		if other.Name > t.Name {
			greater = append(greater, other)
		}
	}
	if len(smaller)+len(greater) == len(b) && len(b) > 5 {
		return nil, 2
	}
	return slices.Concat(byName(smaller), []api.Lookup{t}, byName(greater)), 0
}

// byName returns tables in increasing order of their Names, those with the same one in their order.
func byName(l []api.Lookup) []api.Lookup {
	var sorted []api.Lookup
	for _, t := range l {
		at := len(sorted)
		for at > 0 && sorted[at-1].Name > t.Name {
			at--
		}
		sorted = slices.Insert(sorted, at, t)
	}
	return sorted
}

func wantedDiff(a, b api.Lookup) []string {
	different := map[string]bool{}
	if fmt.Sprintf("%q", a.Cols) != fmt.Sprintf("%q", b.Cols) || len(a.Rows) != len(b.Rows) {
		for _, name := range slices.Concat(a.Cols, b.Cols) {
			different[name] = true
		}
	} else {
		for i, name := range a.Cols {
			for k := range a.Rows {
				x, y := api.Value{}, api.Value{}
				if i < len(a.Rows[k]) {
					x = a.Rows[k][i]
				}
				if i < len(b.Rows[k]) {
					y = b.Rows[k][i]
				}
				different[name] = different[name] || !same(x, y)
			}
		}
	}
	var l []string
	for name, is := range different {
		if is {
			l = append(l, name)
		}
	}
	slices.Sort(l)
	return l
}

// The samples.

// valuesOfKind returns values of a Kind, few of them, so that many cells are equal.
func valuesOfKind(kind int) []api.Value {
	switch kind {
	case api.Text:
		return []api.Value{text(""), text("a"), text("b"), text("a'|")}
	case api.Number:
		return []api.Value{number(0, 0), number(1, 0), number(-1, 0), number(1, 1), number(-15, 1), number(2, 0)}
	case api.Date:
		return []api.Value{day(0), day(1), day(3652058)}
	case api.Bool:
		return []api.Value{truth(0), truth(1)}
	}
	return []api.Value{failed(0), failed(1), failed(18)}
}

// cell returns a value of a Kind, or, one time of some, one of the Kind None.
func (s *samples) cell(kind int) api.Value {
	if s.below(5) == 0 {
		kind = api.None
	}
	return element(s, valuesOfKind(kind))
}

// columns returns at most so many different names of columns.
func (s *samples) columns(most int) []string {
	all := names("a", "b", "c", "d", "e", "f", "g", "h", "A", "a_1", "zz")
	for i := range all {
		k := i + s.below(len(all)-i)
		all[i], all[k] = all[k], all[i]
	}
	return all[:s.below(min(most, len(all))+1)]
}

// rows returns so many rows, whose cells have one Kind in most columns.
func (s *samples) rows(cols, count int) [][]api.Value {
	kinds := make([]int, cols)
	for i := range kinds {
		kinds[i] = 1 + s.below(4)
	}
	l := make([][]api.Value, count)
	for k := range l {
		for _, kind := range kinds {
			l[k] = append(l[k], s.cell(kind))
		}
	}
	return l
}

// table returns a right table.
func (s *samples) table() api.Value {
	cols := s.columns(element(s, []int{1, 2, 3, 4, 8}))
	v := tableOf(cols, s.rows(len(cols), s.below(element(s, []int{2, 4, 6, 12})))...)
	if len(v.Rows) > 0 && len(cols) > 0 && s.below(4) == 0 {
		v.Rows[s.below(len(v.Rows))][s.below(len(cols))] = s.cell(s.below(5))
	}
	return v
}

// lookup returns a lookup table, a right one more often than not.
func (s *samples) lookup() api.Lookup {
	v := s.table()
	return lookup(element(s, names("t", "s", "T", "a", "t1", "t_", "u")), v.Cols, v.Rows...)
}

// name returns a column of a list, or another name.
func (s *samples) name(cols []string) string {
	if len(cols) == 0 || s.below(8) == 0 {
		return element(s, names("a", "b", "c", "", "no", "zz"))
	}
	return element(s, cols)
}

// value returns a cell of some rows, or another value.
func (s *samples) value(rows [][]api.Value) api.Value {
	switch {
	case s.below(8) == 0:
		return element(s, otherValues())
	case len(rows) == 0 || s.below(4) == 0:
		return s.cell(s.below(5))
	}
	cells := element(s, rows)
	if len(cells) == 0 {
		return failed(0)
	}
	return element(s, cells)
}

// dep returns a dependency between some names.
func (s *samples) dep(cols []string) api.Dep {
	var d api.Dep
	for range s.below(4) {
		d.From = append(d.From, s.name(cols))
	}
	d.To = s.name(cols)
	return d
}

// otherRows returns rows with one cell changed, one cell or row more or less, or two rows exchanged.
func (s *samples) otherRows(rows [][]api.Value) [][]api.Value {
	l := slices.Clone(rows)
	if len(l) == 0 || s.below(8) == 0 {
		return append(l, row(s.cell(1), s.cell(2)))
	}
	i := s.below(len(l))
	switch cells := slices.Clone(l[i]); {
	case s.below(8) == 0:
		return slices.Delete(l, i, i+1)
	case s.below(8) == 0:
		k := s.below(len(l))
		l[i], l[k] = l[k], l[i]
	case len(cells) == 0 || s.below(8) == 0:
		l[i] = append(cells, s.cell(s.below(5)))
	case s.below(8) == 0:
		l[i] = cells[:s.below(len(cells))]
	default:
		cells[s.below(len(cells))] = s.value(l)
		l[i] = cells
	}
	return l
}

// otherTable returns a value that differs from a table in some field, a right one or not.
func (s *samples) otherTable(v api.Value) api.Value {
	switch s.below(7) {
	case 0:
		v.Kind = s.below(8) - 1
	case 1:
		v.Cols = append(slices.Clone(v.Cols), s.name(v.Cols))
	case 2:
		v.Cols = v.Cols[:s.below(len(v.Cols)+1)]
	case 3:
		v.S, v.N, v.D.N = element(s, names("", "a")), s.below(2), s.below(2)
	case 4:
		return element(s, otherValues())
	default:
		v.Rows = s.otherRows(v.Rows)
	}
	return v
}

// otherLookup returns a lookup table that differs from another one in some field.
func (s *samples) otherLookup(t api.Lookup) api.Lookup {
	if s.below(5) == 0 {
		t.Name = element(s, otherNames())
		return t
	}
	v := s.otherTable(tableOf(t.Cols, t.Rows...))
	return lookup(t.Name, v.Cols, v.Rows...)
}

// otherNames returns strings that are no names.
func otherNames() []string {
	return names("", "1", "_", "_a", "1a", "a-b", "a b", " a", "a ", "a.b", "ä", "aä", "a\x00", "a[", "@", "`", "{", "a/", "a:", strings.Repeat("a", 21), strings.Repeat("a", 300))
}

// otherValues returns values that no right table has as a cell.
func otherValues() []api.Value {
	deep := tableOf(names("x"), row(tableOf(names("y"), row(text("a")))))
	return []api.Value{
		tableOf(nil), tableOf(names("a"), row(number(1, 0))), deep, {Kind: 6}, {Kind: -1}, {Kind: math.MinInt}, failed(-1), failed(100), text(strings.Repeat("a", 201)), text("\n"), text("ä"), number(10, 1), number(1, 7), number(1, -1), number(1e15+1, 0), number(math.MinInt, 0), number(math.MaxInt, math.MaxInt), day(-1), day(3652059), truth(2), truth(-1),
		{Kind: api.Text, S: "a", N: 1}, {Kind: api.Number, S: "a"}, {Kind: api.Number, D: api.Dec{N: 1}, N: 1}, {Kind: api.Date, D: api.Dec{N: 1}}, {Kind: api.Bool, Cols: names("")}, {Kind: api.Text, S: "a", Rows: [][]api.Value{nil}}, {Kind: api.None, S: "x"}, {Kind: api.None, Cols: names("a")}, {Kind: api.Number, D: api.Dec{Scale: 1}},
	}
}
