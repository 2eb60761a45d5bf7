package abstract_test

import (
	"fmt"
	"math"
	"slices"
	"strings"

	"concord/api"
	"concord/decimal"
	"concord/shape"
	"concord/table"
	"concord/value"
)

// The tests of this package call exported functions only. Samples come from a generator with a fixed start, so that each run tests the same ones.

// samples generates values and abstract values.
type samples struct{ state uint64 }

// below returns a number from 0 to n - 1 (splitmix64).
func (s *samples) below(n int) int {
	s.state += 0x9e3779b97f4a7c15
	z := s.state
	z = (z ^ z>>30) * 0xbf58476d1ce4e5b9
	z = (z ^ z>>27) * 0x94d049bb133111eb
	return int((z ^ z>>31) % uint64(n))
}

// element returns an element of l.
func element[T any](s *samples, l []T) T { return l[s.below(len(l))] }

// some returns some elements of l, in any order; some of them more than once, if again is true.
func some[T any](s *samples, l []T, again bool) []T {
	l = slices.Clone(l)
	for i := range l {
		k := i + s.below(len(l)-i)
		l[i], l[k] = l[k], l[i]
	}
	l = l[:s.below(len(l)+1)]
	for again && len(l) > 0 && s.below(2) == 0 {
		l = slices.Insert(l, s.below(len(l)+1), element(s, l))
	}
	return l
}

func failed(n int) api.Value         { return api.Value{Kind: api.None, N: n} }
func text(s string) api.Value        { return api.Value{Kind: api.Text, S: s} }
func day(n int) api.Value            { return api.Value{Kind: api.Date, N: n} }
func truth(n int) api.Value          { return api.Value{Kind: api.Bool, N: n} }
func names(names ...string) []string { return names }
func number(n, scale int) api.Value {
	return api.Value{Kind: api.Number, D: api.Dec{N: n, Scale: scale}}
}
func row(cells ...api.Value) []api.Value { return cells }
func tableOf(cols []string, rows ...[]api.Value) api.Value {
	return api.Value{Kind: api.Table, Cols: cols, Rows: rows}
}

// read returns the value with a text.
func read(s string) api.Value {
	v, ok := value.Read(s)
	if !ok {
		panic(s)
	}
	return v
}

// dep returns the dependency with a text such as a,b>c.
func dep(s string) api.Dep {
	from, to, _ := strings.Cut(s, ">")
	if from == "" {
		return api.Dep{To: to}
	}
	return api.Dep{From: strings.Split(from, ","), To: to}
}

// deps returns the dependencies with some texts, with a blank between each two.
func deps(s string) []api.Dep {
	var l []api.Dep
	for _, part := range strings.Fields(s) {
		l = append(l, dep(part))
	}
	return l
}

// tables returns the abstract value of tables with so many rows, columns whose names have one letter, and dependencies.
func tables(low, high int, cols, dependencies string) api.Abstract {
	a := nothing()
	a.Kinds, a.Rows, a.Cols, a.Deps = 32, api.Span{Low: low, High: high}, strings.Split(cols, ""), deps(dependencies)
	return a
}

// nothing returns the canonical form that contains nothing.
func nothing() api.Abstract {
	return api.Abstract{
		Kinds: 0, Texts: api.Shape{Least: 1, Most: 0, Classes: 0, Begin: "", End: ""}, Numbers: api.Range{Low: api.Dec{N: 1, Scale: 0}, High: api.Dec{N: 0, Scale: 0}},
		Dates: api.Span{Low: 1, High: 0}, Bools: 0, Rows: api.Span{Low: 1, High: 0}, Cols: nil, Deps: nil, Errs: false,
	}
}

// everything returns the canonical form that contains all values.
func everything() api.Abstract {
	return api.Abstract{
		Kinds: 62, Texts: api.Shape{Most: 200, Classes: 110}, Numbers: api.Range{Low: api.Dec{N: -1000000000000000}, High: api.Dec{N: 1000000000000000}},
		Dates: api.Span{High: 3652058}, Bools: 3, Rows: api.Span{High: 100}, Errs: true,
	}
}

// fields returns all fields of an abstract value as a string, from which they could be read again.
func fields(a api.Abstract) string {
	var b strings.Builder
	fmt.Fprintf(&b, "{%d (%d %d %d %q %q) %d %d %d %d %q", a.Kinds, a.Texts.Least, a.Texts.Most, a.Texts.Classes, a.Texts.Begin, a.Texts.End, a.Numbers, a.Dates, a.Bools, a.Rows, a.Cols)
	for _, d := range a.Deps {
		fmt.Fprintf(&b, " %q>%q", d.From, d.To)
	}
	fmt.Fprintf(&b, " %t}", a.Errs)
	return b.String()
}

// fieldsOfValue returns all fields of a value as a string, from which they could be read again.
func fieldsOfValue(v api.Value) string {
	var b strings.Builder
	writeFields(&b, v)
	return b.String()
}

func writeFields(b *strings.Builder, v api.Value) {
	fmt.Fprintf(b, "{%d %q %d %d %q %d", v.Kind, v.S, v.D, v.N, v.Cols, len(v.Rows))
	for _, cells := range v.Rows {
		b.WriteByte('(')
		for _, cell := range cells {
			writeFields(b, cell)
		}
		b.WriteByte(')')
	}
	b.WriteByte('}')
}

// The samples of values.

// valuesOfKind returns right values of a Kind, few of them, so that many are equal. There are no tables among them.
func valuesOfKind(kind int) []api.Value {
	switch kind {
	case api.Text:
		return []api.Value{text(""), text("a"), text("ab"), text("a1b"), text("B"), text("aba"), text(" -"), text(strings.Repeat("x", 200))}
	case api.Number:
		return []api.Value{number(0, 0), number(1, 0), number(-1, 0), number(1, 1), number(-15, 1), number(2, 0), number(1, 6), number(1e15, 0), number(-1e15, 0)}
	case api.Date:
		return []api.Value{day(0), day(1), day(5), day(700000), day(3652057), day(3652058)}
	case api.Bool:
		return []api.Value{truth(0), truth(1)}
	}
	return []api.Value{failed(0), failed(1), failed(18), failed(99)}
}

// wrongValues returns values that are not right, each for another reason.
func wrongValues() []api.Value {
	x := text("x")
	return []api.Value{
		{Kind: 6}, {Kind: -1}, {Kind: math.MaxInt}, {Kind: math.MinInt}, {Kind: 64}, failed(-1), failed(100), {Kind: api.None, S: "x"}, {Kind: api.None, Cols: names("a")},
		text("\n"), text("é"), text(strings.Repeat("x", 201)), {Kind: api.Text, S: "x", N: 1}, {Kind: api.Text, S: "x", D: api.Dec{N: 1}},
		number(10, 1), number(0, 1), number(1, -1), number(1, 7), number(1e15+1, 0), {Kind: api.Number, N: 1}, {Kind: api.Number, S: "1"},
		day(-1), day(3652059), day(math.MaxInt), {Kind: api.Date, N: 5, S: "x"}, truth(2), truth(-1), truth(math.MinInt), {Kind: api.Bool, N: 1, Rows: [][]api.Value{nil}},
		tableOf(names("9")), tableOf(names("")), tableOf(names("a", "a")), tableOf(names("a", "b", "c", "d", "e", "f", "g", "h", "i")), tableOf(names(strings.Repeat("a", 21))), tableOf(names("a"), nil), tableOf(names("a"), row(x, x)), tableOf(names("a"), row(text("\n"))),
		tableOf(names("a"), row(tableOf(nil))), tableOf(nil, make([][]api.Value, 101)...), {Kind: api.Table, Cols: names("a"), S: "x"}, {Kind: api.Table, Cols: names("a"), N: 1},
	}
}

// columnNames returns names of columns, the first ones more often used than others.
func columnNames() []string { return names("a", "b", "c", "d", "e", "A", "b_1", "zz") }

// table returns a right table, many of them with few columns and few different cells.
func (s *samples) table() api.Value {
	v := tableOf(some(s, columnNames()[:element(s, []int{1, 2, 3, 4, 8})], false))
	for range s.below(element(s, []int{1, 3, 5, 8})) {
		var cells []api.Value
		for range v.Cols {
			cells = append(cells, element(s, []api.Value{number(0, 0), number(1, 0), number(2, 0), text("x"), failed(0), failed(1), day(s.below(4))}))
		}
		v.Rows = append(v.Rows, cells)
	}
	return v
}

// value returns a right value.
func (s *samples) value() api.Value {
	if kind := s.below(7); kind < api.Table {
		return element(s, valuesOfKind(kind))
	}
	return s.table()
}

// otherValue returns any value.
func (s *samples) otherValue() api.Value {
	if s.below(10) == 0 {
		return element(s, wrongValues())
	}
	return s.value()
}

// someValues returns right values, those of valuesOfKind and tables.
func someValues(count int, state uint64) []api.Value {
	s := &samples{state: state}
	l := []api.Value{tableOf(nil), tableOf(nil, make([][]api.Value, 100)...), tableOf(names("a", "b", "c", "d", "e", "f", "g", "h"))}
	for kind := range api.Table {
		l = append(l, valuesOfKind(kind)...)
	}
	for range count {
		l = append(l, s.table())
	}
	return l
}

// The samples of abstract values.

// bits returns an int with some of the lowest bits, and other ones now and then.
func (s *samples) bits(count int) int {
	bits := s.below(1 << count)
	switch s.below(6) {
	case 0:
		return bits | 1 | math.MinInt
	case 1:
		return bits | 1<<count | 1<<40
	case 2:
		return ^bits
	}
	return bits
}

// shape returns the shape of some texts; one time of some, one whose fields are anything.
func (s *samples) shape() api.Shape {
	ends := []string{"", "", "", "a", "ab", "ba", "b", "x", "é", "a1b"}
	switch s.below(4) {
	case 0:
		return shape.Of(element(s, valuesOfKind(api.Text)).S)
	case 1:
		return api.Shape{Least: s.below(3), Most: 1 + s.below(6), Classes: s.below(128), Begin: element(s, ends), End: element(s, ends)}
	case 2:
		lengths := []int{math.MinInt, -1, 0, 1, 2, 199, 200, 201, math.MaxInt}
		return api.Shape{Least: element(s, lengths), Most: element(s, lengths), Classes: s.bits(7), Begin: element(s, ends), End: element(s, ends)}
	}
	return element(s, []api.Shape{{}, {Least: 1}, {Most: 200, Classes: 110}, {Least: 3, Most: 2, Classes: 8}, {Most: 200}, {Least: 1, Most: 200}})
}

// dec returns a decimal, one that is not right now and then.
func (s *samples) dec() api.Dec {
	if s.below(8) == 0 {
		return element(s, []api.Dec{{N: 10, Scale: 1}, {Scale: 3}, {N: 5, Scale: -1}, {N: math.MaxInt}, {N: math.MinInt, Scale: 6}})
	}
	return element(s, valuesOfKind(api.Number)).D
}

// span returns a span with ends among some ints; one time of some, one end is any of these.
func (s *samples) span(ends ...int) api.Span {
	a, b := element(s, ends), element(s, ends)
	switch s.below(8) {
	case 0:
		return api.Span{Low: a, High: b}
	case 1:
		return api.Span{Low: a, High: a}
	case 2:
		return api.Span{Low: element(s, []int{math.MinInt, -1, 0, 1, math.MaxInt}), High: b}
	case 3:
		return api.Span{Low: a, High: element(s, []int{math.MinInt, -1, 0, 1, math.MaxInt})}
	}
	return api.Span{Low: min(a, b), High: max(a, b)}
}

// dep returns a dependency between few names.
func (s *samples) dep() api.Dep {
	l := columnNames()[:element(s, []int{2, 3, 4})]
	if s.below(20) == 0 {
		l = names("a", "9", "", ",", "a,b", ">b", "\x00")
	}
	from := some(s, l, s.below(4) == 0)
	return api.Dep{From: from[:min(len(from), 2+s.below(2))], To: element(s, l)}
}

// deps returns dependencies, some of them more than once.
func (s *samples) deps() []api.Dep {
	var l []api.Dep
	for range s.below(element(s, []int{1, 3, 6, 10})) {
		d := s.dep()
		if len(l) > 0 && s.below(4) == 0 {
			d = element(s, l)
		}
		l = append(l, d)
	}
	return l
}

// cols returns columns, now and then more than a table can have, or such that are no names.
func (s *samples) cols() []string {
	l := some(s, columnNames()[:element(s, []int{1, 2, 4, 8})], s.below(3) == 0)
	switch s.below(16) {
	case 0:
		l = append(l, element(s, names("", "9", "_", "a b", "é", strings.Repeat("a", 21))))
	case 1:
		l = append(l, names("f", "g", "h", "i", "f")[:s.below(6)]...)
	}
	return l
}

// any returns an abstract value whose fields are anything.
func (s *samples) any() api.Abstract {
	a := api.Abstract{
		Kinds: s.bits(6), Texts: s.shape(), Numbers: api.Range{Low: s.dec(), High: s.dec()}, Dates: s.span(-1, 0, 1, 5, 700000, 3652058, 3652059),
		Bools: s.bits(2), Rows: s.span(-1, 0, 1, 2, 3, 5, 99, 100, 101), Cols: s.cols(), Deps: s.deps(), Errs: s.below(2) == 0,
	}
	if decimal.Cmp(a.Numbers.Low, a.Numbers.High) > 0 && s.below(4) > 0 {
		a.Numbers.Low, a.Numbers.High = a.Numbers.High, a.Numbers.Low
	}
	if s.below(4) == 0 {
		a.Kinds = 1 << (1 + s.below(5))
		a.Errs = s.below(3) == 0
	}
	return a
}

// around returns an abstract value that contains a right value.
func (s *samples) around(v api.Value) api.Abstract {
	a := s.any()
	if v.Kind == api.None {
		a.Errs = true
		return a
	}
	a.Kinds |= 1 << v.Kind
	switch v.Kind {
	case api.Text:
		a.Texts = s.shapeAround(v.S)
	case api.Number:
		a.Numbers = api.Range{Low: v.D, High: v.D}
		if other := s.dec(); decimal.Cmp(other, v.D) < 0 {
			a.Numbers.Low = other
		} else if s.below(2) == 0 {
			a.Numbers.High = other
		}
	case api.Date:
		a.Dates = s.spanAround(v.N)
	case api.Bool:
		a.Bools |= 1 << v.N
	case api.Table:
		a.Rows = s.spanAround(len(v.Rows))
		a.Cols = some(s, v.Cols, s.below(3) == 0)
		a.Deps = some(s, append(s.deps(), table.Keys(v.Cols, v.Rows)...), s.below(3) == 0)
		a.Deps = slices.DeleteFunc(a.Deps, func(d api.Dep) bool { return !table.Holds(v.Cols, v.Rows, d) })
	}
	return a
}

// shapeAround returns a shape that contains a text.
func (s *samples) shapeAround(v string) api.Shape {
	a := shape.Of(v)
	if s.below(3) == 0 {
		return a
	}
	a.Begin, a.End = v[:s.below(len(v)+1)], v[s.below(len(v)+1):]
	a.Least -= s.below(4)
	a.Most += s.below(4)
	a.Classes |= s.below(128)
	return a
}

// spanAround returns a span that contains an int.
func (s *samples) spanAround(n int) api.Span {
	return api.Span{Low: n - element(s, []int{0, 0, 1, 2, 5, 200}), High: n + element(s, []int{0, 0, 1, 2, 5, 200})}
}

// change returns an abstract value with one field changed.
func (s *samples) change(a api.Abstract) api.Abstract {
	b := s.any()
	switch s.below(12) {
	case 0:
		a.Kinds ^= 1 << s.below(7)
	case 1:
		a.Texts = b.Texts
	case 2:
		a.Numbers.Low = b.Numbers.Low
	case 3:
		a.Numbers.High = b.Numbers.High
	case 4:
		a.Dates.Low += element(s, []int{-1, 1, 5})
	case 5:
		a.Dates.High += element(s, []int{-1, 1, 5})
	case 6:
		a.Bools ^= 1 << s.below(3)
	case 7:
		a.Rows.Low += element(s, []int{-1, 1, 5})
	case 8:
		a.Rows.High += element(s, []int{-1, 1, 5})
	case 9:
		a.Cols = some(s, append(b.Cols, a.Cols...), false)
	case 10:
		a.Deps = some(s, append(b.Deps, a.Deps...), false)
	case 11:
		a.Errs = !a.Errs
	}
	return a
}

// pair returns two abstract values that are alike more often than not.
func (s *samples) pair() (a, b api.Abstract) {
	switch s.below(4) {
	case 0:
		return s.any(), s.any()
	case 1:
		v := s.value()
		return s.around(v), s.around(v)
	case 2:
		return s.around(s.table()), s.around(s.table())
	}
	a = s.any()
	b = s.change(a)
	for s.below(2) == 0 {
		b = s.change(b)
	}
	return a, b
}

// someAbstracts returns abstract values of all forms.
func someAbstracts(count int, state uint64) []api.Abstract {
	s := &samples{state: state}
	l := extremes()
	for len(l) < count {
		if s.below(3) == 0 {
			l = append(l, s.around(s.value()))
		} else {
			l = append(l, s.any())
		}
	}
	return l
}

// extremes returns abstract values with fields next to their limits.
func extremes() []api.Abstract {
	all, eight := everything(), names("a", "b", "c", "d", "e", "f", "g", "h")
	l := []api.Abstract{{}, nothing(), all, {Kinds: -1}, {Kinds: -1, Errs: true}, {Kinds: 1}, {Kinds: 64}, {Kinds: ^62, Bools: 3}, {Kinds: math.MinInt, Bools: 3}}
	for _, change := range []func(a *api.Abstract){
		func(a *api.Abstract) { a.Kinds = -1 },
		func(a *api.Abstract) { a.Kinds = 1 },
		func(a *api.Abstract) { a.Errs = false },
		func(a *api.Abstract) { a.Texts = api.Shape{Least: math.MinInt, Most: math.MaxInt, Classes: -1} },
		func(a *api.Abstract) {
			a.Numbers = api.Range{Low: api.Dec{N: math.MaxInt}, High: api.Dec{N: 1, Scale: 9}}
		},
		func(a *api.Abstract) { a.Dates = api.Span{Low: math.MinInt, High: math.MaxInt} },
		func(a *api.Abstract) { a.Dates = api.Span{Low: math.MinInt, High: -1} },
		func(a *api.Abstract) { a.Dates = api.Span{Low: math.MinInt, High: 0} },
		func(a *api.Abstract) { a.Dates = api.Span{Low: 3652059, High: math.MaxInt} },
		func(a *api.Abstract) { a.Dates = api.Span{Low: 3652058, High: math.MaxInt} },
		func(a *api.Abstract) { a.Dates = api.Span{Low: 7, High: 6} },
		func(a *api.Abstract) { a.Bools = -1 },
		func(a *api.Abstract) { a.Bools = -2 },
		func(a *api.Abstract) { a.Bools = -4 },
		func(a *api.Abstract) { a.Rows = api.Span{Low: math.MinInt, High: math.MaxInt} },
		func(a *api.Abstract) { a.Rows = api.Span{Low: math.MinInt, High: -1} },
		func(a *api.Abstract) { a.Rows = api.Span{Low: math.MinInt, High: 0} },
		func(a *api.Abstract) { a.Rows = api.Span{Low: 101, High: math.MaxInt} },
		func(a *api.Abstract) { a.Rows = api.Span{Low: 100, High: math.MaxInt} },
		func(a *api.Abstract) { a.Cols = eight },
		func(a *api.Abstract) { a.Cols = slices.Repeat(eight, 3) },
		func(a *api.Abstract) { a.Cols = append(slices.Repeat(eight, 3), "i") },
		func(a *api.Abstract) { a.Cols = names(strings.Repeat("a", 20)) },
		func(a *api.Abstract) { a.Cols = names(strings.Repeat("a", 21)) },
		func(a *api.Abstract) { a.Cols = names("") },
		func(a *api.Abstract) { a.Deps = []api.Dep{{}, {From: names("")}, {From: names("", "")}, {To: "9"}, {}} },
	} {
		a := all
		change(&a)
		l = append(l, a)
	}
	return l
}
