package oper_test

import (
	"slices"
	"testing"

	"concord/api"
	"concord/oper"
	"concord/value"
)

// P11.4: the consequences, without another implementation beside the package.

// apply calls Apply.
func apply(c call) (api.Value, api.Errno) {
	return oper.Apply(c.op, c.param, c.args, c.base, c.cols, c.row)
}

func TestValuesAreRightAndOfTheirKind(t *testing.T) {
	some := map[string]int{}
	for _, c := range someCalls(1000, 10) {
		v, e := apply(c)
		if e != api.OK {
			continue
		}
		some[c.op]++
		kinds, kind, e := oper.Types(c.op, c.param, c.base, c.cols)
		if !value.Right(v) || v.Kind != kind || e != api.OK || len(kinds) != len(c.args) {
			t.Fatalf("Apply of %s = %s; Types: %v, %d, %d", c, fields(v), kinds, kind, e)
		}
	}
	for _, op := range operators() {
		if some[op] < 20 {
			t.Errorf("%d values of %q", some[op], op)
		}
	}
}

// sameResult reports whether two calls have the same result.
func sameResult(c, d call) bool {
	v, e := apply(c)
	w, f := apply(d)
	return fields(v) == fields(w) && e == f
}

// TestOtherTablesDoNotMatter replaces all tables but those with the name that Reads returns.
func TestOtherTablesDoNotMatter(t *testing.T) {
	s := &samples{state: 12}
	some := 0
	for _, c := range someCalls(400, 11) {
		reads := oper.Reads(c.op, c.param)
		other := c
		other.base = s.base()
		other.base = slices.DeleteFunc(other.base, func(x api.Lookup) bool { return x.Name == reads })
		for _, x := range c.base {
			if x.Name == reads {
				other.base = append(other.base, x)
			}
		}
		if !sameResult(c, other) {
			t.Fatalf("Apply of %s and of %s differ", c, other)
		}
		if _, e := apply(c); e == api.OK && reads != "" && len(c.base) > 1 {
			some++
		}
	}
	if some < 50 {
		t.Errorf("%d calls read a table", some)
	}
}

// TestOtherCellsDoNotMatter replaces the row, for col all cells but that of the column, and all columns behind it.
func TestOtherCellsDoNotMatter(t *testing.T) {
	s := &samples{state: 14}
	some := 0
	for _, c := range someCalls(400, 13) {
		other := c
		if c.op != "col" {
			other.cols = s.columns()
			other.row = s.row(other.cols)
		} else if value.Fits(c.cols, c.row) {
			place := slices.IndexFunc(c.cols, func(col api.Column) bool { return col.Name == c.param })
			other.row = slices.Clone(c.row)
			for i, col := range c.cols {
				if i != place && 1 <= col.Kind && col.Kind <= 5 {
					other.row[i] = s.value(col.Kind)
				}
			}
			some++
		}
		if !sameResult(c, other) {
			t.Fatalf("Apply of %s and of %s differ", c, other)
		}
	}
	if some < 50 {
		t.Errorf("%d calls of col have a row that fits", some)
	}
}

// TestArgumentsThatAreNotTaken replaces the argument that if does not take.
func TestArgumentsThatAreNotTaken(t *testing.T) {
	s := &samples{state: 15}
	for range 3000 {
		c := s.call("if")
		if len(c.args) != 3 || c.args[0].Kind != api.Bool || !value.Right(c.args[0]) {
			continue
		}
		other := c
		other.args = slices.Clone(c.args)
		other.args[1+c.args[0].N] = s.otherValue(s.below(6))
		if !sameResult(c, other) {
			t.Fatalf("Apply of %s and of %s differ", c, other)
		}
	}
}

// mustApply returns the value of a call without tables and rows.
func mustApply(t *testing.T, op, param string, args ...api.Value) api.Value {
	t.Helper()
	v, e := oper.Apply(op, param, args, nil, nil, nil)
	if e != api.OK {
		t.Fatalf("Apply of %q to %s: %d", op, allFields(args), e)
	}
	return v
}

func TestDaysUndoesBetween(t *testing.T) {
	s := &samples{state: 16}
	dates := valuesOfKind(api.Date)
	for range 300 {
		dates = append(dates, day(s.below(api.MaxDay+1)))
	}
	for _, a := range dates {
		for _, b := range dates {
			if got := mustApply(t, "days", "", a, mustApply(t, "between", "", a, b)); fields(got) != fields(b) {
				t.Fatalf("days of between of %s and %s: %s", value.Text(a), value.Text(b), value.Text(got))
			}
		}
	}
}

func TestSubUndoesAdd(t *testing.T) {
	s := &samples{state: 17}
	numbers := valuesOfKind(api.Number)
	for range 300 {
		v, _ := wantedNumber(ratOf(number(s.below(1<<element(s, []int{4, 16, 40}))-s.below(1000), s.below(7))))
		numbers = append(numbers, v)
	}
	some := 0
	for _, a := range numbers {
		for _, b := range numbers {
			sum, e := oper.Apply("add", "", list(a, b), nil, nil, nil)
			if e != api.OK {
				continue
			}
			some++
			if got := mustApply(t, "sub", "", sum, b); fields(got) != fields(a) {
				t.Fatalf("sub of add of %s and %s: %s", value.Text(a), value.Text(b), value.Text(got))
			}
		}
	}
	if some < len(numbers)*len(numbers)/2 {
		t.Errorf("%d sums", some)
	}
}

func TestReadUndoesShow(t *testing.T) {
	s := &samples{state: 18}
	some := 0
	for _, layout := range layouts() {
		if _, _, e := oper.Types("show", layout, nil, nil); e != api.OK {
			continue
		}
		some++
		for range 500 {
			v := day(s.below(api.MaxDay + 1))
			if got := mustApply(t, "read", layout, mustApply(t, "show", layout, v)); fields(got) != fields(v) {
				t.Fatalf("read of show of %s in %q: %s", value.Text(v), layout, value.Text(got))
			}
		}
	}
	if some < 6 {
		t.Errorf("%d layouts", some)
	}
}
