package table_test

import (
	"strings"
	"testing"

	"concord/api"
	"concord/table"
	"concord/value"
)

// P9.2: Where, Pick. P9.3: Join.

// checkResult compares a table or an error with what is wanted, and returns the error.
func checkResult(t *testing.T, call string, got api.Value, e api.Errno, want api.Value, wantErr api.Errno) api.Errno {
	t.Helper()
	if !same(got, want) || e != wantErr {
		t.Fatalf("%s = %s, %d, not %s, %d", call, fields(got), e, fields(want), wantErr)
	}
	if e == api.OK && !value.Right(got) {
		t.Fatalf("%s = %s, which is not right", call, fields(got))
	}
	return e
}

func checkWhere(t *testing.T, x api.Value, col string, v api.Value) api.Errno {
	t.Helper()
	got, e := table.Where(x, col, v)
	want, wantErr := wantedWhere(x, col, v)
	return checkResult(t, "Where("+fields(x)+", "+col+", "+fields(v)+")", got, e, want, wantErr)
}

func checkPick(t *testing.T, x api.Value, cols []string) api.Errno {
	t.Helper()
	got, e := table.Pick(x, cols)
	want, wantErr := wantedPick(x, cols)
	return checkResult(t, "Pick("+fields(x)+", "+strings.Join(cols, ",")+")", got, e, want, wantErr)
}

func checkJoin(t *testing.T, a, b api.Value, col string) api.Errno {
	t.Helper()
	got, e := table.Join(a, b, col)
	want, wantErr := wantedJoin(a, b, col)
	return checkResult(t, "Join("+fields(a)+", "+fields(b)+", "+col+")", got, e, want, wantErr)
}

// checkText compares a table or an error with the text of what is wanted.
func checkText(t *testing.T, call string, got api.Value, e api.Errno, want string, wantErr api.Errno) {
	t.Helper()
	if wantErr != 0 && fields(got) != fields(api.Value{}) || wantErr == 0 && value.Text(got) != want || e != wantErr {
		t.Errorf("%s = %s, %d, not %s, %d", call, fields(got), e, want, wantErr)
	}
}

func TestExamplesOfWhere(t *testing.T) {
	x := ofTable("[a,b;'x',#1;'y',#1;!0,#2;'x',!3;#1,'x']")
	for _, c := range []struct {
		col  string
		v    api.Value
		want string
		e    api.Errno
	}{
		{"a", text("x"), "[a,b;'x',#1;'x',!3]", 0}, {"b", number(1, 0), "[a,b;'x',#1;'y',#1]", 0}, {"a", number(1, 0), "[a,b;#1,'x']", 0}, {"b", text("x"), "[a,b;#1,'x']", 0}, {"a", text("z"), "[a,b]", 0}, {"a", failed(0), "[a,b]", 0}, {"b", failed(3), "[a,b]", 0}, {"b", number(10, 1), "[a,b]", 0}, {"a", tableOf(nil), "[a,b]", 0}, {"a", api.Value{Kind: 9}, "[a,b]", 0},
		{"c", text("x"), "", 13}, {"", text("x"), "", 13}, {"A", text("x"), "", 13}, {"a,b", text("x"), "", 13},
	} {
		got, e := table.Where(x, c.col, c.v)
		checkText(t, "Where(.., "+c.col+", "+fields(c.v)+")", got, e, c.want, c.e)
	}
}

func TestExamplesOfPick(t *testing.T) {
	x := ofTable("[a,b,c;'x',#1,!0;'y',!2,?1]")
	for cols, want := range map[string]string{"a": "[a;'x';'y']", "b": "[b;#1;!2]", "c": "[c;!0;?1]", "abc": value.Text(x), "cb": "[c,b;!0,#1;?1,!2]", "bca": "[b,c,a;#1,!0,'x';!2,?1,'y']", "": "[;;]"} {
		got, e := table.Pick(x, letters(cols))
		checkText(t, "Pick(.., "+cols+")", got, e, want, 0)
	}
	for _, cols := range []string{"d", "aa", "aba", "abcd", "dabc", "abca", "A", "aad", "bb"} {
		got, e := table.Pick(x, letters(cols))
		checkText(t, "Pick(.., "+cols+")", got, e, "", 13)
	}
	got, e := table.Pick(tableOf(nil, nil, nil), nil)
	checkText(t, "Pick of no columns", got, e, "[;;]", 0)
	got, e = table.Pick(tableOf(names("a")), names(""))
	checkText(t, "Pick of no name", got, e, "", 13)
}

// TestTypesComeFirst has values that are no right tables, with names that are no columns.
func TestTypesComeFirst(t *testing.T) {
	right := ofTable("[a,b;#1,#2]")
	for _, x := range append(otherValues(), api.Value{}, text("a"), number(1, 0), tableOf(names("a", "a")), tableOf(names("a"), row()), tableOf(names("a"), row(day(-1))), tableOf(letters("abcdefghi")), tableOf(nil, make([][]api.Value, 101)...), api.Value{Kind: api.Table, Cols: names("a"), N: 1}) {
		if isRightTable(x) {
			continue
		}
		for _, col := range names("a", "x") {
			for _, e := range []api.Errno{checkWhere(t, x, col, number(1, 0)), checkPick(t, x, names(col)), checkPick(t, x, names("a", "a")), checkPick(t, x, nil), checkSum(t, x, col, api.Dec{}), checkJoin(t, x, right, col), checkJoin(t, right, x, col), checkJoin(t, x, x, col)} {
				if e != api.ErrType {
					t.Errorf("of %s: error %d", fields(x), e)
				}
			}
		}
	}
}

func TestExamplesOfJoin(t *testing.T) {
	for _, c := range []struct {
		a, b, col, want string
		e               api.Errno
	}{
		{"[a,k;#1,'x';#2,'y';#3,'x']", "[k,b;'x',?0;'z',?1;'x',!0]", "k", "[a,k,b;#1,'x',?0;#1,'x',!0;#3,'x',?0;#3,'x',!0]", 0},
		{"[k,a;'x',#1]", "[b,k,c;#2,'x',#3]", "k", "[k,a,b,c;'x',#1,#2,#3]", 0}, {"[k;'x';'y']", "[k;'y';'x';'y']", "k", "[k;'x';'y';'y']", 0}, {"[a,b;#1,#2;#2,#1]", "[c,b;#1,#1;#2,#2]", "b", "[a,b,c;#1,#2,#2;#2,#1,#1]", 0},
		{"[k;!0;!1;'x']", "[k,b;!0,#1;!1,#2]", "k", "[k,b]", 0}, {"[k;!0;'x']", "[k,b;!0,#1;'x',#2]", "k", "[k,b;'x',#2]", 0}, {"[k;#1;'1';?1;@0001-01-02]", "[k,b;?1,'b';@0001-01-02,'d';#1,'n';'1','t']", "k", "[k,b;#1,'n';'1','t';?1,'b';@0001-01-02,'d']", 0},
		{"[k]", "[k,b;#1,#2]", "k", "[k,b]", 0}, {"[k;#1]", "[k,b]", "k", "[k,b]", 0}, {"[k]", "[k]", "k", "[k]", 0},
		{"[k,a;#1,#2]", "[b]", "k", "", 13}, {"[a]", "[k]", "k", "", 13}, {"[a]", "[b]", "k", "", 13}, {"[]", "[]", "", "", 13}, {"[k,a]", "[k,a]", "k", "", 13}, {"[k,a]", "[a,b,k]", "k", "", 13}, {"[k,a]", "[b,k,a]", "k", "", 13}, {"[a,k]", "[k,a]", "a", "", 13}, {"[k,a]", "[k,A]", "k", "[k,a,A]", 0},
		{"[a,b,c,d,k]", "[k,e,f,g]", "k", "[a,b,c,d,k,e,f,g]", 0}, {"[a,b,c,d,k]", "[k,e,f,g,h]", "k", "", 2}, {"[a,b,c,d,e,f,g,k]", "[k]", "k", "[a,b,c,d,e,f,g,k]", 0}, {"[a,b,c,d,e,f,g,k]", "[k,h]", "k", "", 2}, {"[a,b,c,d,e,f,g,k;#1,#1,#1,#1,#1,#1,#1,#1]", "[h,k;#1,#1]", "k", "", 2}, {"[a,b,c,d,e,f,g,k]", "[k,a]", "k", "", 13}, {"[a,b,c,d,e,f,g,h]", "[a,i]", "k", "", 13},
	} {
		got, e := table.Join(ofTable(c.a), ofTable(c.b), c.col)
		checkText(t, "Join("+c.a+", "+c.b+", "+c.col+")", got, e, c.want, c.e)
	}
}

// numbered returns a table with so many rows, whose column k has one value, and whose other column numbers them.
func numbered(col string, count int) api.Value {
	v := tableOf(names("k", col))
	for i := range count {
		v.Rows = append(v.Rows, row(text("x"), number(i, 0)))
	}
	return v
}

// TestJoinOfManyRows has as many rows as there can be, and more.
func TestJoinOfManyRows(t *testing.T) {
	for _, c := range []struct {
		a, b int
		e    api.Errno
	}{{10, 10, 0}, {100, 1, 0}, {1, 100, 0}, {50, 2, 0}, {2, 51, 2}, {100, 100, 2}, {11, 10, 2}, {1, 1, 0}, {0, 100, 0}, {100, 0, 0}} {
		if e := checkJoin(t, numbered("a", c.a), numbered("b", c.b), "k"); e != c.e {
			t.Errorf("%d rows and %d: %d", c.a, c.b, e)
		}
	}
	a, b := numbered("a", 100), numbered("b", 1)
	b.Rows = append(b.Rows, row(text("y"), number(1, 0)))
	a.Rows[99][0] = text("y")
	if e := checkJoin(t, a, b, "k"); e != api.OK {
		t.Errorf("100 rows: %d", e)
	}
	b.Rows = append(b.Rows, row(text("y"), number(2, 0)))
	if e := checkJoin(t, a, b, "k"); e != api.ErrMany {
		t.Errorf("101 rows: %d", e)
	}
}

func TestRowsOfSamples(t *testing.T) {
	s := &samples{state: 3}
	var where, pick, join = map[api.Errno]int{}, map[api.Errno]int{}, map[api.Errno]int{}
	const tries = 15000
	for range tries {
		a, b := s.table(), s.table()
		if s.below(6) == 0 {
			a = s.otherTable(a)
		}
		where[checkWhere(t, a, s.name(a.Cols), s.value(a.Rows))]++
		cols := s.columns(3)
		for range s.below(4) {
			cols = append(cols, s.name(a.Cols))
		}
		if s.below(2) == 0 {
			cols = a.Cols[s.below(len(a.Cols)+1):]
		}
		pick[checkPick(t, a, cols)]++
		if s.below(2) == 0 && len(a.Cols) > 0 { // other names, and one in common
			for i := range b.Cols {
				b.Cols[i] += "2"
			}
			if len(b.Cols) > 0 {
				b.Cols[s.below(len(b.Cols))] = element(s, a.Cols)
			}
		}
		join[checkJoin(t, a, b, s.name(a.Cols))]++
	}
	for _, e := range []api.Errno{api.OK, api.ErrType, api.ErrName} {
		if where[e] < tries/20 || pick[e] < tries/20 || join[e] < tries/20 {
			t.Errorf("error %d: %d, %d, %d", e, where[e], pick[e], join[e])
		}
	}
	if join[api.ErrMany] < tries/400 {
		t.Errorf("%d joins have too many columns", join[api.ErrMany])
	}
}
