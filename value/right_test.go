package value_test

import (
	"math"
	"strings"
	"testing"

	"concord/api"
	"concord/value"
)

// P6.1: Right, Fail, Error.

func TestRightValues(t *testing.T) {
	for _, v := range rightAtTheEdge() {
		if !value.Right(v) {
			t.Errorf("%s is not right", fields(v))
		}
	}
}

func TestValuesOutOfRange(t *testing.T) {
	for _, v := range valuesOutOfRange() {
		if value.Right(v) {
			t.Errorf("%s is right", fields(v))
		}
	}
}

func TestFieldsOfOtherKinds(t *testing.T) {
	for _, v := range valuesWithOtherFields() {
		if value.Right(v) {
			t.Errorf("%s is right", fields(v))
		}
	}
}

func TestWrongTables(t *testing.T) {
	for _, v := range wrongTables() {
		if value.Right(v) {
			t.Errorf("%s is right", fields(v))
		}
	}
}

// TestBytesOfTexts and TestBytesOfNames have all bytes at the first, the second and the last place.
func TestBytesOfTexts(t *testing.T) {
	for c := range 256 {
		s := string([]byte{byte(c)})
		for _, v := range []api.Value{text(s), text("a" + s + "b"), text(strings.Repeat("a", 199) + s)} {
			if got, want := value.Right(v), 32 <= c && c <= 126; got != want {
				t.Errorf("Right(%q) = %t", v.S, got)
			}
		}
	}
}

func TestBytesOfNames(t *testing.T) {
	const letters = "abcdefghijklmnopqrstuvwxyzABCDEFGHIJKLMNOPQRSTUVWXYZ"
	for c := range 256 {
		s := string([]byte{byte(c)})
		first, later := strings.Contains(letters, s), strings.Contains(letters+"0123456789_", s)
		for name, want := range map[string]bool{s: first, s + "a": first, "a" + s: later, "a" + s + "b": later, strings.Repeat("a", 19) + s: later} {
			if got := value.Right(table(names("other", name))); got != want {
				t.Errorf("a table with the column %q: %t", name, got)
			}
		}
	}
}

func TestNumbersOfErrorsAndBools(t *testing.T) {
	for n := -300; n <= 300; n++ {
		for v, want := range map[int]bool{api.None: 0 <= n && n <= 99, api.Date: n >= 0, api.Bool: n == 0 || n == 1, api.Text: n == 0, api.Number: n == 0, api.Table: n == 0} {
			if got := value.Right(api.Value{Kind: v, N: n}); got != want {
				t.Errorf("Right of the Kind %d with N %d = %t", v, n, got)
			}
		}
	}
}

func TestSamplesAreRight(t *testing.T) {
	s := &samples{state: 1}
	right := 0
	for range 30000 {
		v := s.value()
		if !isRight(v) || !value.Right(v) {
			t.Fatalf("%s is not right", fields(v))
		}
		for range 3 {
			v = s.change(v)
			if got, want := value.Right(v), isRight(v); got != want {
				t.Fatalf("Right(%s) = %t", fields(v), got)
			} else if got {
				right++
			}
		}
	}
	if right < 9000 || right > 81000 {
		t.Errorf("%d changed values are right", right)
	}
}

func TestFail(t *testing.T) {
	for _, n := range append(extremeInts(), -1, 0, 1, 18, 70, 99, 100) {
		if got, want := value.Fail(api.Errno(n)), failed(n); fields(got) != fields(want) {
			t.Errorf("Fail(%d) = %s", n, fields(got))
		}
	}
}

func TestErrorOfNone(t *testing.T) {
	for _, n := range append(extremeInts(), -1, 1, 2, 16, 18, 70, 99, 100) {
		if got := value.Error(failed(n)); got != api.Errno(n) {
			t.Errorf("Error of None with %d = %d", n, got)
		}
	}
	if got := value.Error(api.Value{}); got != api.ErrEmpty {
		t.Errorf("Error of the empty cell = %d", got)
	}
}

func TestErrorOfOtherKinds(t *testing.T) {
	for _, kind := range []int{api.Text, api.Number, api.Date, api.Bool, api.Table, -1, 6, math.MinInt, math.MaxInt} {
		for _, n := range []int{0, 1, 18, -1} {
			if got := value.Error(api.Value{Kind: kind, N: n}); got != api.OK {
				t.Errorf("Error of the Kind %d with N %d = %d", kind, n, got)
			}
		}
	}
}

// TestErrorOfWrongNone has values of the Kind None with fields of other kinds.
func TestErrorOfWrongNone(t *testing.T) {
	for _, v := range []api.Value{{S: "a"}, {D: api.Dec{N: 1}}, {Cols: names("a")}, {Rows: [][]api.Value{nil}}} {
		if got := value.Error(v); got != api.ErrEmpty {
			t.Errorf("Error(%s) = %d", fields(v), got)
		}
		v.N = 18
		if got := value.Error(v); got != api.ErrMiss {
			t.Errorf("Error(%s) = %d", fields(v), got)
		}
	}
}
