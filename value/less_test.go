package value_test

import (
	"fmt"
	"math/big"
	"slices"
	"strings"
	"testing"

	"concord/api"
	"concord/value"
)

// P6.3: Less. Right values are compared with keys, strings that have the same order byte by byte.

// key returns the key of a right value. No key is the beginning of another one.
func key(v api.Value) string {
	switch v.Kind {
	case api.Text:
		return "1" + v.S + "\x00"
	case api.Number:
		units := new(big.Int).Exp(big.NewInt(10), big.NewInt(int64(6-v.D.Scale)), nil)
		units.Mul(units, big.NewInt(int64(v.D.N)))
		units.Add(units, new(big.Int).Exp(big.NewInt(10), big.NewInt(22), nil))
		return fmt.Sprintf("2%024d", units)
	case api.Table:
		return "5" + keyOfList(v.Cols, func(name string) string { return name + "\x00" }) + keyOfList(v.Rows, keyOfRow)
	}
	return fmt.Sprintf("%d%07d", v.Kind, v.N)
}

func keyOfRow(l []api.Value) string {
	return keyOfList(l, key)
}

// keyOfList returns the key of a list whose elements have keys.
func keyOfList[T any](l []T, key func(x T) string) string {
	var text strings.Builder
	for _, x := range l {
		text.WriteString("\x01" + key(x))
	}
	return text.String() + "\x00"
}

// checkOrder compares Less of all pairs of right values with their keys.
func checkOrder(t *testing.T, l []api.Value) {
	t.Helper()
	keys := make([]string, len(l))
	for i, v := range l {
		keys[i] = key(v)
	}
	for i, a := range l {
		for k, b := range l {
			if got, want := value.Less(a, b), keys[i] < keys[k]; got != want {
				t.Fatalf("Less(%s, %s) = %t", fields(a), fields(b), got)
			}
		}
	}
}

// checkIncreasing reports neighbours and others of a list that is not in increasing order.
func checkIncreasing(t *testing.T, l []api.Value) {
	t.Helper()
	for i, a := range l {
		for k, b := range l {
			if got := value.Less(a, b); got != (i < k) {
				t.Errorf("Less(%s, %s) = %t", fields(a), fields(b), got)
			}
		}
	}
}

func TestOrderOfKinds(t *testing.T) {
	checkIncreasing(t, []api.Value{failed(0), failed(99), text(""), text("~~"), number(-1e15, 0), number(1e15, 0), day(0), day(3652058), truth(0), truth(1), table(nil), table(names("a"))})
}

func TestOrderOfTexts(t *testing.T) {
	checkIncreasing(t, []api.Value{text(""), text(" "), text("  "), text("'"), text("10"), text("9"), text("A"), text("Z"), text("_"), text("a"), text("a "), text("aa"), text("ab"), text("b"), text("~")})
}

func TestOrderOfNumbers(t *testing.T) {
	checkIncreasing(t, []api.Value{
		number(-1e15, 0), number(-1e15+1, 0), number(-2, 0), number(-15, 1), number(-1, 0), number(-999999, 6), number(-1, 6), number(0, 0), number(1, 6), number(2, 6), number(1, 5), number(1, 1),
		number(11, 2), number(5, 1), number(999999, 6), number(1, 0), number(1000001, 6), number(15, 1), number(9, 0), number(10, 0), number(1e15-1, 6), number(1e15-1, 0), number(1e15, 0),
	})
}

func TestOrderOfOthers(t *testing.T) {
	checkIncreasing(t, []api.Value{failed(0), failed(1), failed(2), failed(9), failed(10), failed(99)})
	checkIncreasing(t, []api.Value{day(0), day(1), day(9), day(10), day(100), day(3652058)})
	checkIncreasing(t, []api.Value{truth(0), truth(1)})
}

// TestOrderOfTables has columns before rows, beginnings before the whole, and rows of different lengths.
func TestOrderOfTables(t *testing.T) {
	checkIncreasing(t, []api.Value{
		table(nil), table(nil, row()), table(nil, row(), row()),
		table(names("A")), table(names("a")), table(names("a"), row(failed(0))), table(names("a"), row(failed(0)), row(failed(0))), table(names("a"), row(failed(0)), row(text("x"))),
		table(names("a"), row(failed(1))), table(names("a"), row(text("x"))), table(names("a"), row(text("x")), row(text(""))), table(names("a"), row(number(5, 1))), table(names("a"), row(number(1, 0))), table(names("a"), row(number(10, 0))), table(names("a"), row(day(3))), table(names("a"), row(truth(1))),
		table(names("a", "b")), table(names("a", "b"), row(text("x"), text("y"))), table(names("a", "b"), row(text("x"), text("z"))), table(names("a", "b"), row(text("y"), text(""))),
		table(names("a", "c")), table(names("aa")), table(names("aa", "a")), table(names("b")), table(names("b"), row(failed(0))), table(names("b", "a")),
	})
}

func TestOrderOfSamples(t *testing.T) {
	s := &samples{state: 5}
	for range 6 {
		l := rightAtTheEdge()
		for range 150 {
			l = append(l, s.value())
		}
		checkOrder(t, l)
	}
}

// TestOrderOfSmallTables has many tables with equal columns and beginnings.
func TestOrderOfSmallTables(t *testing.T) {
	cells := []api.Value{failed(0), text(""), text("a"), number(1, 1), number(1, 0), truth(1)}
	l := []api.Value{table(nil), table(nil, row()), table(nil, row(), row())}
	for _, cols := range [][]string{names("a"), names("b")} {
		l = append(l, table(cols))
		for _, first := range cells {
			l = append(l, table(cols, row(first)), table(append(slices.Clone(cols), "c"), row(first, first)))
			for _, second := range cells {
				l = append(l, table(cols, row(first), row(second)), table(append(slices.Clone(cols), "c"), row(first, second)))
			}
		}
	}
	checkOrder(t, l)
}

// TestWrongValuesAreLast has pairs of which one or none is right.
func TestWrongValuesAreLast(t *testing.T) {
	wrong := wrongValues()
	for _, v := range append(rightAtTheEdge(), oneOfEachKind()...) {
		for _, other := range wrong {
			if !value.Less(v, other) || value.Less(other, v) {
				t.Fatalf("%s is not less than %s, or the other way round", fields(v), fields(other))
			}
		}
	}
	for i, a := range wrong {
		if b := wrong[i/2]; value.Less(a, b) || value.Less(b, a) {
			t.Fatalf("one of %s and %s is less", fields(a), fields(b))
		}
	}
}
