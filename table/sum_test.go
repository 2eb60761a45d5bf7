package table_test

import (
	"fmt"
	"math"
	"testing"

	"concord/api"
	"concord/table"
)

// P9.4: Sum.

func checkSum(t *testing.T, x api.Value, col string, least api.Dec) api.Errno {
	t.Helper()
	got, e := table.Sum(x, col, least)
	want, wantErr := wantedSum(x, col, least)
	return checkResult(t, fmt.Sprint("Sum(", fields(x), ", ", col, ", ", least, ")"), got, e, want, wantErr)
}

func TestExamplesOfSum(t *testing.T) {
	dec := func(n, scale int) api.Dec { return api.Dec{N: n, Scale: scale} }
	most, low := dec(1e15, 0), dec(-1e15, 0)
	for _, c := range []struct {
		table, col string
		least      api.Dec
		want       string
		e          api.Errno
	}{
		{"[n;#3;#-5;#4]", "n", dec(-2, 0), "#2", 0}, {"[n;#3;#-5;#4]", "n", dec(0, 0), "", 20}, {"[n;#3;#-5;#4]", "n", dec(-1, 0), "", 20}, {"[n;#3;#-5;#4]", "n", dec(-19, 1), "", 20}, {"[n;#3;#-5;#4]", "n", dec(-2000001, 6), "#2", 0}, {"[n;#3;#-5;#4]", "n", low, "#2", 0}, {"[n;#3;#-5]", "n", dec(-2, 0), "#-2", 0}, {"[n;#-5]", "n", dec(-4, 0), "", 20}, {"[n;#-5]", "n", dec(-5, 0), "#-5", 0},
		{"[n]", "n", dec(5, 0), "#0", 0}, {"[n]", "n", most, "#0", 0}, {"[n]", "n", low, "#0", 0}, {"[n;#4]", "n", dec(5, 0), "", 20}, {"[n;#5]", "n", dec(5, 0), "#5", 0}, {"[n;#4;#4]", "n", dec(5, 0), "", 20}, {"[n;#5;#1]", "n", dec(5, 0), "#6", 0}, {"[n;#6;#-1]", "n", dec(5, 0), "#5", 0}, {"[n;#6;#-2;#9]", "n", dec(5, 0), "", 20},
		{"[n;#0.1;#0.2]", "n", dec(0, 0), "#0.3", 0}, {"[n;#0.5;#0.5]", "n", dec(0, 0), "#1", 0}, {"[n;#1.5;#-1.5]", "n", dec(0, 0), "#0", 0}, {"[a,n;'x',#1;'y',#2]", "n", dec(0, 0), "#3", 0}, {"[n,a;#1,#5;#2,!0]", "n", dec(0, 0), "#3", 0}, {"[n,a;#1,#5;#2,!0]", "a", dec(0, 0), "", 14},
		{"[n;#1;'x']", "n", dec(0, 0), "", 14}, {"[n;#1;!0]", "n", dec(0, 0), "", 14}, {"[n;#1;!14]", "n", dec(0, 0), "", 14}, {"[n;@0001-01-02]", "n", dec(0, 0), "", 14}, {"[n;?1]", "n", dec(0, 0), "", 14}, {"[n;!0]", "n", dec(5, 0), "", 14}, {"[n;#-1;'x']", "n", dec(0, 0), "", 20}, {"[n;'x';#-1]", "n", dec(0, 0), "", 14}, {"[n;'x']", "m", dec(0, 0), "", 13}, {"[n]", "m", dec(0, 0), "", 13}, {"[]", "", dec(0, 0), "", 13},
		{"[n;#1000000000000000;#1]", "n", dec(0, 0), "", 3}, {"[n;#1000000000000000;#1;#-1]", "n", dec(0, 0), "", 3}, {"[n;#1000000000000000;#-1;#1]", "n", dec(0, 0), "#1000000000000000", 0}, {"[n;#-1000000000000000;#-1]", "n", low, "", 3}, {"[n;#1000000000000000;#0.1]", "n", dec(0, 0), "", 3}, {"[n;#1000000000.1;#0.000001]", "n", dec(0, 0), "", 3}, {"[n;#-1000000000.1;#-0.000001]", "n", dec(0, 0), "", 20}, {"[n;#-1000000000000000;#-1]", "n", dec(-999999999999999, 0), "", 20}, {"[n;#1000000000000000;#1;'x']", "n", dec(0, 0), "", 3}, {"[n;#1000000000000000;'x';#1]", "n", dec(0, 0), "", 14}, {"[n;#1000000000000000]", "n", most, "#1000000000000000", 0},
	} {
		x := ofTable(c.table)
		got, e := table.Sum(x, c.col, c.least)
		checkText(t, fmt.Sprint("Sum(", c.table, ", ", c.col, ", ", c.least, ")"), got, e, c.want, c.e)
		checkSum(t, x, c.col, c.least)
	}
}

// TestLeastThatIsNotRight counts as 0.
func TestLeastThatIsNotRight(t *testing.T) {
	for _, least := range []api.Dec{{N: -50, Scale: 1}, {N: 50, Scale: 1}, {N: 1e15 + 1}, {N: -1e15 - 1}, {N: math.MinInt}, {N: math.MaxInt}, {N: -5, Scale: 7}, {N: 5, Scale: -1}, {N: 0, Scale: 1}} {
		for s, want := range map[string]api.Errno{"[n;#3;#-3]": 0, "[n;#3;#-4;#5]": 20, "[n;#-1]": 20, "[n;#0]": 0, "[n;#-0.000001]": 20} {
			if e := checkSum(t, ofTable(s), "n", least); e != want {
				t.Errorf("Sum(%s, n, %v): %d", s, least, e)
			}
		}
	}
}

func TestSumOfSamples(t *testing.T) {
	s := &samples{state: 4}
	counts := map[api.Errno]int{}
	const tries = 15000
	number := func() api.Value {
		switch s.below(40) {
		case 0:
			return s.cell(s.below(5))
		case 1, 2, 3:
			return api.Value{Kind: api.Number, D: api.Dec{N: element(s, []int{1e15, -1e15, 1e15 - 1, 999999999999999, 5e14})}}
		case 4, 5, 6, 7:
			return api.Value{Kind: api.Number, D: api.Dec{N: 10*s.below(400) + 1, Scale: 1 + s.below(6)}}
		}
		return api.Value{Kind: api.Number, D: api.Dec{N: s.below(20) - 8}}
	}
	for range tries {
		x := s.table()
		at := s.below(len(x.Cols) + 1)
		if at < len(x.Cols) && s.below(10) > 0 {
			for _, cells := range x.Rows {
				cells[at] = number()
			}
		}
		if s.below(10) == 0 {
			x = s.otherTable(x)
		}
		col := s.name(x.Cols)
		if at < len(x.Cols) && s.below(4) > 0 {
			col = x.Cols[at]
		}
		least := number().D
		if s.below(3) > 0 {
			least = api.Dec{N: -s.below(2000)}
		}
		counts[checkSum(t, x, col, least)]++
	}
	for _, e := range []api.Errno{api.OK, api.ErrType, api.ErrName, api.ErrRange, api.ErrFold} {
		if counts[e] < tries/50 {
			t.Errorf("%d results with the error %d", counts[e], e)
		}
	}
}
