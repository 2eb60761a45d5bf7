package oper_test

import (
	"slices"
	"strings"
	"testing"

	"concord/api"
	"concord/oper"
)

// P11.2: Types.

// someBase returns tables of which some are not right, and some have the same name.
func someBase() []api.Lookup {
	return []api.Lookup{
		lookup("bad name", "[a]"), {Name: "t", Cols: names("a", "a")}, lookup("t", "[a,b,c;'x',#1,!0;'y',!0,!3]"), lookup("t", "[z;@2024-02-29]"), lookup("rates", "[code,rate,day,ok;'x',#1.5,!0,?1;'y',!18,@0001-01-02,!1]"), lookup("empty", "[a,b]"),
	}
}

// checkTypes compares Types with what is wanted.
func checkTypes(t *testing.T, op, param string, base []api.Lookup, cols []api.Column, kinds []int, kind int, want api.Errno) {
	t.Helper()
	gotKinds, gotKind, e := oper.Types(op, param, base, cols)
	if !slices.Equal(gotKinds, kinds) || gotKind != kind || e != want {
		t.Errorf("Types(%q, %q, %s) = %v, %d, %d, not %v, %d, %d", op, param, fieldsOfLookups(base), gotKinds, gotKind, e, kinds, kind, want)
	}
}

func TestTypesOfOperators(t *testing.T) {
	const T, N, D, B, Tab = api.Text, api.Number, api.Date, api.Bool, api.Table
	for _, c := range []struct {
		op, param string
		kinds     []int
		kind      int
	}{
		{"col", "a", nil, T}, {"text", "", nil, T}, {"number", "-2.5", nil, N}, {"date", "2024-02-29", nil, D}, {"bool", "0", nil, B}, {"bool", "1", nil, B},
		{"concat", "", []int{T, T}, T}, {"upper", "", []int{T}, T}, {"lower", "", []int{T}, T}, {"trim", "", []int{T}, T}, {"extract", `\d+#2`, []int{T}, T}, {"length", "", []int{T}, N}, {"parse", "", []int{T}, N}, {"print", "", []int{N}, T},
		{"add", "", []int{N, N}, N}, {"sub", "", []int{N, N}, N}, {"mul", "", []int{N, N}, N}, {"round", "3", []int{N}, N}, {"read", "D.M.YYYY", []int{T}, D}, {"show", "YYYYMMDD", []int{D}, T}, {"days", "", []int{D, N}, D}, {"between", "", []int{D, D}, N},
		{"equal", "text", []int{T, T}, B}, {"equal", "number", []int{N, N}, B}, {"equal", "date", []int{D, D}, B}, {"before", "", []int{D, D}, B}, {"less", "", []int{N, N}, B}, {"match", `\a`, []int{T}, B}, {"match", "", []int{T}, B}, {"not", "", []int{B}, B}, {"and", "", []int{B, B}, B},
		{"if", "text", []int{B, T, T}, T}, {"if", "number", []int{B, N, N}, N}, {"if", "date", []int{B, D, D}, D}, {"if", "bool", []int{B, B, B}, B}, {"if", "table", []int{B, Tab, Tab}, Tab},
		{"lookup", "t.a.b:number", []int{T}, N}, {"lookup", "rates.code.code:text", []int{T}, T}, {"lookup", "rates.ok.day:date", []int{T}, D}, {"lookup", "rates.rate.ok:bool", []int{T}, B}, {"lookup", "t.b.c:date", []int{T}, D}, {"lookup", "empty.a.b:bool", []int{T}, B}, {"table", "t", nil, Tab}, {"table", "empty", nil, Tab},
		{"where", "x", []int{Tab, T}, Tab}, {"join", "x", []int{Tab, Tab}, Tab}, {"pick", "x", []int{Tab}, Tab}, {"pick", "a,b,c,d,e,f,g,h", []int{Tab}, Tab}, {"sum", "x>=0", []int{Tab}, N}, {"count", "", []int{Tab}, N}, {"first", "x:text", []int{Tab}, T}, {"first", "x:number", []int{Tab}, N}, {"first", "x:date", []int{Tab}, D}, {"first", "x:bool", []int{Tab}, B},
	} {
		checkTypes(t, c.op, c.param, someBase(), columns("a1"), c.kinds, c.kind, api.OK)
		if wanted, kind, e := wantedTypes(c.op, c.param, someBase(), columns("a1")); !slices.Equal(wanted, c.kinds) || kind != c.kind || e != 0 {
			t.Errorf("the reference: %q, %q, %v, %d, %d", c.op, c.param, wanted, kind, e)
		}
	}
}

// TestTypesOfColumns has columns of all kinds, with the same name, or with what is no name.
func TestTypesOfColumns(t *testing.T) {
	cols := columns("a1b2c3d4e5f0a2")
	cols = append(cols, api.Column{Name: "g", Kind: 77}, api.Column{Name: "h", Kind: -1}, api.Column{Name: "", Kind: 1}, api.Column{Name: "1", Kind: 1}, api.Column{Name: strings.Repeat("n", 21), Kind: 1}, api.Column{Name: "i_", Kind: -1 << 63})
	for name, kind := range map[string]int{"a": 1, "b": 2, "c": 3, "d": 4, "e": 5, "f": 0, "g": 77, "h": -1, "i_": -1 << 63} {
		checkTypes(t, "col", name, nil, cols, nil, kind, api.OK)
	}
	for _, name := range names("A", "z", "ab", "a_", strings.Repeat("n", 20)) {
		checkTypes(t, "col", name, someBase(), cols, nil, 0, api.ErrName)
		checkTypes(t, "col", name, nil, nil, nil, 0, api.ErrName)
	}
	for _, name := range names("", "1", strings.Repeat("n", 21), "_", "a ", " a", "a,b", "a.b", "é") {
		checkTypes(t, "col", name, nil, cols, nil, 0, api.ErrForm)
	}
}

// TestForms has parameters that have the form of an operator, and others.
func TestForms(t *testing.T) {
	long, eight := strings.Repeat("n", 20), "a,b,c,d,e,f,g,h"
	for _, c := range []struct {
		ops        string
		right, not []string
	}{
		{"concat upper lower trim length parse print add sub mul days between before less not and count", names(""), names(" ", "a", "0", "\x00", "text", "#")},
		{"where join", names("a", "Z", "a_9", long), names("", "9", "_", "9a", "a-b", "a b", "a ", "é", "a\n", "a,b", long+"n")},
		{"text", names("", " ", "~", "'", "a'b", strings.Repeat("x", 200)), names(strings.Repeat("x", 201), "\n", "\x1f", "\x7f", "é", "a\x00")},
		{"number", names("0", "7", "-7", "10", "0.5", "-0.5", "12.000001", "1000000000000000", "-1000000000000000", "0.000001", "999999999.999999"), names("", "-", "+1", "-0", "00", "01", "1.", ".1", "1.0", "1.50", "0.0000001", "1000000000000001", "1000000000.000001", "1e2", " 1", "1 ", "1,5", "#1", "0x1", "1_0", "--1", "9999999999999999999999")},
		{"date", names("0001-01-01", "9999-12-31", "2024-02-29"), names("", "0000-12-31", "10000-01-01", "2023-02-29", "2024-2-29", "2024-02-9", "24-02-29", "2024/02/29", "2024-13-01", "2024-00-01", "2024-02-29 ", "@2024-02-29", "-001-01-01")},
		{"bool", names("0", "1"), names("", "2", "-1", "00", "01", "true", "false", "?1", "1 ")},
		{"match", names("", "a", `\d+`, `\d*`, `\d{2}`, `\d{0,1}`, `\d{1,2}`, `\d{200}`, `\u\l\a\s\o\.`, `\\\{\}\+\*`, "#", "a#1", "'", strings.Repeat("a", 60)), names(`\d{1}`, `\d{1,1}`, `\d{2,2}`, `\d{1,200}`, `\d{0,200}`, `\d{0}`, `\d{201}`, `\d{02}`, `\d{2,1}`, `\`, `\x`, "{", "}", "+", "*", "a+", "é", "\n", strings.Repeat("a", 61))},
		{"extract", names(`\d+#1`, `\d+#20`, "#1", "##1", "a#1#2", "##3", strings.Repeat("a", 60)+"#10"), names("", `\d+`, "#", `\d+#`, `\d+#0`, `\d+#21`, `\d+#01`, `\d+#+1`, `\d+#-1`, `\d+#1 `, `\d+#a`, `\d+#1#`, `\d{1}#1`, `\#1`, `\d+#1.5`, `\d+#100`, `\d+#18446744073709551617`, strings.Repeat("a", 61)+"#1")},
		{"round", names("0", "1", "2", "3", "4", "5", "6"), names("", "7", "-1", "00", "01", "+1", " 1", "1.0", "10", "a")},
		{"read show", names("YYYY-MM-DD", "D.M.YYYY", "M/D YYYY", "YYYYMMDD", "(DD) MM, YYYY", strings.Repeat("-", 32)+"YYYYMMDD"), names("", "YYYY", "DD.MM", "YYYY-MM", "YY-MM-DD", "YYYY-MM-DD-YYYY", "D.M.YYYY.D", "DMYYYY", "YYYY-MM-DD1", "YYYY-MM-DD\n", "éYYYY-MM-DD", "MMM DD YYYY", strings.Repeat("-", 33)+"YYYYMMDD")},
		{"equal", names("text", "number", "date"), names("", "bool", "table", "none", "Text", "text ", "texts", "tex", "1", "textnumber")},
		{"if", names("text", "number", "date", "bool", "table"), names("", "none", "Text", " text", "bools", "0", "5", "error")},
		{"pick", names("a", "a,b", "a,A", eight, "b,a", long+",a"), names("", ",", "a,", ",a", "a,,b", "a,a", "a,b,a", eight+",i", "a, b", "a;b", "1", "a,1", long+"n,a", strings.Repeat(",", 9))},
		{"sum", names("a>=0", "a>=-1.5", long+">=1000000000000000"), names("", "a", "a>=", ">=0", "a>0", "a=>0", "a>=1.0", "a>=-0", "a>=x", "a >=0", "a>= 0", "1>=0", "a>=0>=0", "a>=1000000000000001", "a,b>=0", long+"n>=0")},
		{"first", names("a:text", "a:number", "a:date", "a:bool", long+":text"), names("", "a", "a:", ":text", "a:table", "a:none", "a:Text", "a::text", "a:text:text", "1:text", "a :text", "a: text", "a.text", long+"n:text")},
	} {
		for _, op := range strings.Fields(c.ops) {
			for _, param := range c.right {
				if _, _, e := oper.Types(op, param, nil, nil); e != api.OK || !hasForm(op, param) {
					t.Errorf("Types(%q, %q): %d", op, param, e)
				}
			}
			for _, param := range c.not {
				checkTypes(t, op, param, nil, nil, nil, 0, api.ErrForm)
				if hasForm(op, param) {
					t.Errorf("the reference: %q, %q", op, param)
				}
			}
		}
	}
}

// TestTypesOfTables has names of tables and columns that there are or not.
func TestTypesOfTables(t *testing.T) {
	long := strings.Repeat("n", 20)
	for _, c := range []struct {
		op, param string
		e         api.Errno
	}{
		{"table", "x", 13}, {"table", "T", 13}, {"table", "rates", 0}, {"table", "rate", 13}, {"table", "bad name", 11}, {"table", "", 11}, {"table", "t.a.b:text", 11}, {"table", "t,rates", 11}, {"table", "t,", 11}, {"table", "t ", 11}, {"table", " t", 11}, {"table", "'t'", 11}, {"table", long, 13}, {"table", long + "n", 11},
		{"lookup", "x.a.b:text", 13}, {"lookup", "T.a.b:number", 13}, {"lookup", "t.x.b:number", 13}, {"lookup", "t.a.x:number", 13}, {"lookup", "t.x.x:number", 13}, {"lookup", "t.a.z:date", 13}, {"lookup", "t.z.z:date", 13}, {"lookup", "t.A.b:number", 13},
		{"lookup", "t.a.b:text", 14}, {"lookup", "t.a.b:date", 14}, {"lookup", "t.a.b:bool", 14}, {"lookup", "t.b.a:number", 14}, {"lookup", "t.a.a:bool", 14}, {"lookup", "rates.code.day:number", 14}, {"lookup", "rates.code.ok:number", 14}, {"lookup", "rates.code.rate:bool", 14},
		{"lookup", "t.a.b:number", 0}, {"lookup", "t.b.b:number", 0}, {"lookup", "t.c.a:text", 0}, {"lookup", "t.a.c:text", 0}, {"lookup", "t.a.c:number", 0}, {"lookup", "t.a.c:bool", 0}, {"lookup", "empty.a.a:text", 0}, {"lookup", "empty.b.a:date", 0},
		{"lookup", "x.y.z:table", 11}, {"lookup", "t.a.x:table", 11}, {"lookup", "t.a.b:table", 11}, {"lookup", "t.a.b:none", 11}, {"lookup", "t.a.b:", 11}, {"lookup", "t.a.b", 11}, {"lookup", "", 11}, {"lookup", "t.a:number", 11}, {"lookup", "t.a.b.c:number", 11}, {"lookup", "t..b:number", 11}, {"lookup", "t.a.b :number", 11}, {"lookup", "bad name.a.a:text", 11}, {"lookup", "t.a.b:number:number", 11}, {"lookup", ":number", 11}, {"lookup", "t.1.b:number", 11},
	} {
		if _, _, e := oper.Types(c.op, c.param, someBase(), columns("t1a1")); e != c.e {
			t.Errorf("Types(%q, %q): %d, not %d", c.op, c.param, e, c.e)
		}
		if _, _, e := wantedTypes(c.op, c.param, someBase(), nil); e != c.e {
			t.Errorf("the reference: %q, %q: %d", c.op, c.param, e)
		}
	}
	checkTypes(t, "table", "t", nil, nil, nil, 0, api.ErrName)
	checkTypes(t, "lookup", "t.a.b:number", nil, nil, nil, 0, api.ErrName)
}

// TestTypesTakeTheFirstRightTable has a table behind others with its name.
func TestTypesTakeTheFirstRightTable(t *testing.T) {
	wrong := []api.Lookup{{}, {Name: "t"}, {Name: "t", Cols: names("a", "b"), Rows: [][]api.Value{list(text("x"), number(10, 1))}}, {Name: "t", Cols: names("a", "b"), Rows: [][]api.Value{list(text("x"))}}, {Name: "t", Cols: names("a", "1")}, {Name: "t ", Cols: names("a", "b")}, {Name: "t", Cols: names("a", "b"), Rows: [][]api.Value{list(text("x"), day(1)), list(text("x"), truth(1))}}}
	numbers, texts := lookup("t", "[a,b;'x',#1]"), lookup("t", "[a,b;'x','y']")
	for i := range len(wrong) + 1 {
		base := slices.Concat(wrong[:i], []api.Lookup{numbers, texts}, wrong[i:])
		checkTypes(t, "lookup", "t.a.b:number", base, nil, []int{api.Text}, api.Number, api.OK)
		checkTypes(t, "lookup", "t.a.b:text", base, nil, nil, 0, api.ErrType)
		checkTypes(t, "table", "t", base, nil, nil, api.Table, api.OK)
	}
	checkTypes(t, "lookup", "t.a.b:number", wrong, nil, nil, 0, api.ErrName)
	checkTypes(t, "table", "t", wrong, nil, nil, 0, api.ErrName)
}

// TestFirstErrorOfTypes has calls with several errors.
func TestFirstErrorOfTypes(t *testing.T) {
	for _, c := range []struct {
		op, param string
		e         api.Errno
	}{
		{"x", "", 13}, {"x", "\n", 13}, {"", "", 13}, {"col", "1", 11}, {"table", "1", 11}, {"lookup", "x.x.x:table", 11}, {"lookup", "t.x.a:number", 13}, {"lookup", "t.a.x:number", 13}, {"lookup", "t.x.b:text", 13}, {"lookup", "t.a.b:text", 14}, {"col", "z", 13}, {"add", "x", 11},
	} {
		checkTypes(t, c.op, c.param, someBase(), columns("11"), nil, 0, c.e)
	}
}

func TestTypesOfSamples(t *testing.T) {
	counts := map[api.Errno]int{}
	perOp := map[string]int{}
	for _, c := range someCalls(600, 2) {
		kinds, kind, want := wantedTypes(c.op, c.param, c.base, c.cols)
		gotKinds, gotKind, e := oper.Types(c.op, c.param, c.base, c.cols)
		if !slices.Equal(gotKinds, kinds) || gotKind != kind || e != want {
			t.Fatalf("Types of %s = %v, %d, %d, not %v, %d, %d", c, gotKinds, gotKind, e, kinds, kind, want)
		}
		counts[e]++
		if e == api.OK {
			perOp[c.op]++
		}
	}
	for _, e := range []api.Errno{0, 11, 13, 14} {
		if counts[e] < 10 {
			t.Errorf("%d errors %d", counts[e], e)
		}
	}
	for _, op := range operators() {
		if perOp[op] < 60 {
			t.Errorf("%d calls of %q have types", perOp[op], op)
		}
	}
}
