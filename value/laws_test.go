package value_test

import (
	"slices"
	"testing"

	"concord/api"
	"concord/value"
)

// P6.7: the consequences, without another implementation beside the package.

// lawSamples returns right values, among which many are equal or alike.
func lawSamples(count int) []api.Value {
	s := &samples{state: 11}
	l := rightAtTheEdge()
	for len(l) < count {
		v := s.value()
		l = append(l, v)
		if other := s.change(v); value.Right(other) {
			l = append(l, other)
		}
	}
	return l
}

func TestExactlyOneOfTwoIsLess(t *testing.T) {
	l := lawSamples(700)
	equal := 0
	for _, a := range l {
		for _, b := range l {
			less, greater, same := value.Less(a, b), value.Less(b, a), value.Equal(a, b)
			if less && greater || same == (less || greater) {
				t.Fatalf("%q and %q: %t, %t, %t", value.Text(a), value.Text(b), less, greater, same)
			}
			if same {
				equal++
			}
		}
	}
	if equal < len(l)+100 {
		t.Errorf("%d pairs of %d values are equal", equal, len(l))
	}
}

func TestLessIsTransitive(t *testing.T) {
	l := lawSamples(150)
	less := make([][]bool, len(l))
	for i, a := range l {
		for _, b := range l {
			less[i] = append(less[i], value.Less(a, b))
		}
	}
	for i := range l {
		for k := range l {
			for m := range l {
				if less[i][k] && less[k][m] && !less[i][m] {
					t.Fatalf("%q, %q and %q", value.Text(l[i]), value.Text(l[k]), value.Text(l[m]))
				}
			}
		}
	}
}

// TestSortedValues sorts by Less, after which each one is less than all that are behind it, and not equal.
func TestSortedValues(t *testing.T) {
	l := lawSamples(600)
	slices.SortFunc(l, func(a, b api.Value) int {
		switch {
		case value.Less(a, b):
			return -1
		case value.Less(b, a):
			return 1
		}
		return 0
	})
	for i, a := range l {
		for _, b := range l[i+1:] {
			if value.Less(b, a) || !value.Equal(a, b) && !value.Less(a, b) {
				t.Fatalf("%q is before %q", value.Text(a), value.Text(b))
			}
		}
	}
}

func TestDifferentValuesHaveDifferentTexts(t *testing.T) {
	known := map[string]api.Value{}
	l := lawSamples(30000)
	for _, v := range l {
		s := value.Text(v)
		if other, ok := known[s]; s == "" || ok && !value.Equal(other, v) {
			t.Fatalf("%s and %s have the text %q", fields(v), fields(other), s)
		}
		known[s] = v
	}
	if len(known) < 5000 || len(known) > len(l)-5000 {
		t.Errorf("%d texts of %d values", len(known), len(l))
	}
}

func TestReadUndoesText(t *testing.T) {
	for _, v := range lawSamples(30000) {
		if back, ok := value.Read(value.Text(v)); !ok || !value.Equal(back, v) {
			t.Fatalf("Read(%q) = %s, %t", value.Text(v), fields(back), ok)
		}
	}
}

// TestTextUndoesRead has strings of which many are texts.
func TestTextUndoesRead(t *testing.T) {
	s := &samples{state: 12}
	read, readRows := 0, 0
	for range 40000 {
		text := s.changeString(value.Text(s.value()))
		if v, ok := value.Read(text); ok {
			read++
			if !value.Right(v) || value.Text(v) != text {
				t.Fatalf("Read(%q) = %s", text, fields(v))
			}
		}
		text = s.changeString(value.RowText(s.row()))
		if l, ok := value.ReadRow(text); ok {
			readRows++
			if len(l) > 8 || !slices.EqualFunc(l, l, func(v, _ api.Value) bool { return value.Right(v) }) || value.RowText(l) != text {
				t.Fatalf("ReadRow(%q) = %s", text, allFields(l))
			}
		}
	}
	if read < 4000 || readRows < 4000 {
		t.Errorf("%d texts and %d rows were read", read, readRows)
	}
}

func TestReadRowUndoesRowText(t *testing.T) {
	s := &samples{state: 13}
	for range 20000 {
		l := s.row()
		if back, ok := value.ReadRow(value.RowText(l)); len(l) <= 8 && (!ok || !slices.EqualFunc(back, l, value.Equal)) {
			t.Fatalf("ReadRow(%q) = %s", value.RowText(l), allFields(back))
		}
	}
}

// TestRowOfOneValue has rows whose text is that of their value.
func TestRowOfOneValue(t *testing.T) {
	for _, v := range lawSamples(2000) {
		if s := value.RowText(row(v)); s != value.Text(v) {
			t.Fatalf("%q is the text of the row of %q", s, value.Text(v))
		}
	}
}

func TestCopiesAreAlike(t *testing.T) {
	for _, v := range lawSamples(2000) {
		c := value.Copy(v)
		if !value.Equal(c, v) || value.Text(c) != value.Text(v) || value.Less(c, v) || value.Less(v, c) || !value.Right(c) || value.Error(c) != value.Error(v) {
			t.Fatalf("%s and its copy %s", fields(v), fields(c))
		}
	}
}

func TestFailedValuesHaveTheirErrors(t *testing.T) {
	for n := 1; n <= 99; n++ {
		v := value.Fail(api.Errno(n))
		if !value.Right(v) || value.Error(v) != api.Errno(n) {
			t.Errorf("Fail(%d) = %s", n, fields(v))
		}
	}
}
