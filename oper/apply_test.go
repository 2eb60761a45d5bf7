package oper_test

import (
	"slices"
	"strings"
	"testing"

	"concord/api"
	"concord/oper"
	"concord/value"
)

// P11.3: Apply.

// checkApply compares Apply with what is wanted, a value or the error of one of the Kind None; and the reference, too.
func checkApply(t *testing.T, c call, want api.Value) {
	t.Helper()
	wantErr := api.OK
	if want.Kind == api.None {
		want, wantErr = api.Value{}, api.Errno(want.N)
	}
	if got, e := oper.Apply(c.op, c.param, c.args, c.base, c.cols, c.row); fields(got) != fields(want) || e != wantErr {
		t.Errorf("Apply of %s = %s, %d, not %s, %d", c, fields(got), e, fields(want), wantErr)
	}
	if got, e := wantedApply(c); fields(got) != fields(want) || e != wantErr {
		t.Errorf("the reference for %s: %s, %d", c, fields(got), e)
	}
}

// checkCases compares Apply with what is wanted for cases that consist of an operator, its parameter, its arguments, and the result, the last two as texts of rows.
func checkCases(t *testing.T, base []api.Lookup, cols []api.Column, row []api.Value, cases [][4]string) {
	t.Helper()
	for _, c := range cases {
		checkApply(t, call{c[0], c[1], of(c[2]), base, cols, row}, of(c[3])[0])
	}
}

// quoted returns the text of a text.
func quoted(s string) string { return value.Text(text(s)) }

func TestExamplesOfTheDocument(t *testing.T) {
	const prices = "[kind,price;'a',#2;'b',#-3;'a',#5]"
	checkCases(t, nil, nil, nil, [][4]string{
		{"extract", `\d+#2`, "'a1b23'", "'23'"}, {"concat", "", "!18|'x'", "!18"}, {"if", "number", "?1|#1|!3", "#1"}, {"days", "", "@0001-01-01|#-1", "!3"}, {"days", "", "@0001-01-01|#0.5", "!15"}, {"sum", "price>=0", prices, "!20"}, {"sum", "price>=-1", prices, "#4"}, {"extract", `\d+`, "'a'", "!11"}, {"nothing", "", "'a'", "!13"},
	})
}

func TestColumnsAndConstants(t *testing.T) {
	cols := columns("a1b2c3d4e5f1a2g1")
	row := of("'Ada'|#2.5|@2024-02-29|?1|[x;#1]|!18|#7|!0")
	checkCases(t, nil, cols, row, [][4]string{
		{"col", "a", "", "'Ada'"}, {"col", "b", "", "#2.5"}, {"col", "c", "", "@2024-02-29"}, {"col", "d", "", "?1"}, {"col", "e", "", "[x;#1]"}, {"col", "f", "", "!18"}, {"col", "g", "", "!16"}, {"col", "h", "", "!13"}, {"col", "", "", "!11"}, {"col", "a", "'x'", "!14"}, {"col", "a", "!5", "!14"},
		{"text", "a b", "", "'a b'"}, {"text", "", "", "''"}, {"text", "it's", "", "'it''s'"}, {"text", "\n", "", "!11"}, {"text", "a", "'a'", "!14"}, {"number", "-2.5", "", "#-2.5"}, {"number", "0", "", "#0"}, {"number", "1000000000000000", "", "#1000000000000000"}, {"number", "2.50", "", "!11"}, {"date", "0001-01-02", "", "@0001-01-02"}, {"date", "9999-12-31", "", "@9999-12-31"}, {"date", "2023-02-29", "", "!11"}, {"bool", "0", "", "?0"}, {"bool", "1", "", "?1"}, {"bool", "2", "", "!11"}, {"bool", "1", "?1", "!14"},
	})
	checkApply(t, call{op: "text", param: strings.Repeat("~", 200)}, text(strings.Repeat("~", 200)))
	checkApply(t, call{op: "text", param: strings.Repeat("~", 201)}, failed(11))
}

// TestColumnsOfRowsThatDoNotFit has rows with more or fewer cells, and cells of other kinds or that are not right, also in other columns than the one that is named.
func TestColumnsOfRowsThatDoNotFit(t *testing.T) {
	cols := columns("a1b2")
	for _, row := range [][]api.Value{nil, of("'x'"), of("'x'|#1|#2"), of("#1|#1"), of("'x'|'y'"), of("!18|'y'"), list(text("x"), number(10, 1)), list(text("\n"), number(1, 0)), list(text("x"), failed(100)), list(failed(-1), number(1, 0)), list(api.Value{Kind: 9}, number(1, 0))} {
		for _, name := range names("a", "b") {
			checkApply(t, call{op: "col", param: name, cols: cols, row: row}, failed(1))
		}
		checkApply(t, call{op: "col", param: "c", cols: cols, row: row}, failed(13))
		checkApply(t, call{op: "text", param: "c", cols: cols, row: row}, text("c"))
		checkApply(t, call{op: "not", args: of("?1"), cols: cols, row: row}, truth(0))
	}
	checkApply(t, call{op: "col", param: "a", cols: cols, row: of("'x'|!18")}, text("x"))
	checkApply(t, call{op: "col", param: "b", cols: cols, row: of("!7|!18")}, failed(18))
}

// TestColumnsOfOtherKinds has columns of a kind that no value has.
func TestColumnsOfOtherKinds(t *testing.T) {
	for _, kind := range []int{-1, 6, 77} {
		cols := []api.Column{{Name: "a", Kind: kind}}
		checkApply(t, call{op: "col", param: "a", cols: cols, row: of("!18")}, failed(18))
		checkApply(t, call{op: "col", param: "a", cols: cols, row: of("!0")}, failed(16))
		checkApply(t, call{op: "col", param: "a", cols: cols, row: of("'x'")}, failed(1))
		checkApply(t, call{op: "col", param: "a", cols: cols, row: list(api.Value{Kind: kind})}, failed(1))
	}
	checkApply(t, call{op: "col", param: "a", cols: columns("a0"), row: of("!18")}, failed(18))
	checkApply(t, call{op: "col", param: "a", cols: columns("a0"), row: of("'x'")}, failed(1))
}

func TestTexts(t *testing.T) {
	x199, x200 := strings.Repeat("x", 199), strings.Repeat("x", 200)
	all := make([]byte, 95)
	for i := range all {
		all[i] = byte(' ' + i)
	}
	low, high := strings.ToLower(string(all)), strings.ToUpper(string(all))
	checkCases(t, nil, nil, nil, [][4]string{
		{"concat", "", "'a'|'b'", "'ab'"}, {"concat", "", "''|''", "''"}, {"concat", "", "'b'|''", "'b'"}, {"concat", "", "' '|'a '", "' a '"}, {"concat", "", quoted(x199) + "|'b'", quoted(x199 + "b")}, {"concat", "", quoted(x200) + "|''", quoted(x200)}, {"concat", "", "''|" + quoted(x200), quoted(x200)}, {"concat", "", quoted(x200) + "|'b'", "!3"}, {"concat", "", quoted(x199) + "|'bc'", "!3"}, {"concat", "", quoted(x200) + "|" + quoted(x200), "!3"}, {"concat", "x", "'a'|'b'", "!11"},
		{"upper", "", "'aB-1 zZ'", "'AB-1 ZZ'"}, {"upper", "", quoted(string(all)), quoted(high)}, {"upper", "", "''", "''"}, {"lower", "", "'aB-1 zZ'", "'ab-1 zz'"}, {"lower", "", quoted(string(all)), quoted(low)}, {"lower", "", "''", "''"},
		{"trim", "", "'  a  b '", "'a  b'"}, {"trim", "", "'a'", "'a'"}, {"trim", "", "'   '", "''"}, {"trim", "", "''", "''"}, {"trim", "", "' .'", "'.'"},
		{"length", "", "''", "#0"}, {"length", "", "'it''s'", "#4"}, {"length", "", quoted(x200), "#200"}, {"length", "", "' '", "#1"}, {"length", "", "'0123456789'", "#10"},
		{"parse", "", "'-1.5'", "#-1.5"}, {"parse", "", "'0'", "#0"}, {"parse", "", "'1000000000000000'", "#1000000000000000"}, {"parse", "", "'1.'", "!11"}, {"parse", "", "''", "!11"}, {"parse", "", "' 1'", "!11"}, {"parse", "", "'1.50'", "!11"}, {"parse", "", "'1000000000000001'", "!11"}, {"parse", "", "'0.0000001'", "!11"}, {"parse", "", "'-0'", "!11"},
		{"print", "", "#-0.05", "'-0.05'"}, {"print", "", "#10", "'10'"}, {"print", "", "#0", "'0'"}, {"print", "", "#-1000000000000000", "'-1000000000000000'"}, {"print", "", "#0.000001", "'0.000001'"},
		{"extract", `\d+#1`, "'a1b23'", "'1'"}, {"extract", `\d+#3`, "'a1b23'", "!18"}, {"extract", `\d#3`, "'a1b23'", "'3'"}, {"extract", `#1`, "'a1b23'", "!18"}, {"extract", `#1`, "''", "!18"}, {"extract", `##2`, "'a#b#'", "'#'"}, {"extract", `a#1#1`, "'xa#1#1'", "'a#1'"}, {"extract", `\.+#1`, "' a '", "' a '"}, {"extract", `\.+#2`, "' a '", "!18"}, {"extract", `\.#20`, "'abcdefghijklmnopqrstuvwxyz'", "'t'"}, {"extract", `\a\d*#2`, "'ab1c'", "'b1'"}, {"extract", `\d{1}#1`, "'1'", "!11"},
	})
}

func TestNumbers(t *testing.T) {
	const most = "#1000000000000000"
	checkCases(t, nil, nil, nil, [][4]string{
		{"add", "", "#1.5|#0.5", "#2"}, {"add", "", "#0.1|#0.2", "#0.3"}, {"add", "", "#-1|#1", "#0"}, {"add", "", most + "|#0", most}, {"add", "", most + "|#1", "!3"}, {"add", "", most + "|#0.1", "!3"}, {"add", "", most + "|#-1", "#999999999999999"},
		{"sub", "", "#1|#2.5", "#-1.5"}, {"sub", "", "#0|#0", "#0"}, {"sub", "", "#-1000000000000000|#1", "!3"}, {"sub", "", "#0|" + most, "#-1000000000000000"},
		{"mul", "", "#1.5|#0.4", "#0.6"}, {"mul", "", "#0.001|#0.0001", "!3"}, {"mul", "", "#0.001|#0.001", "#0.000001"}, {"mul", "", "#0|#-5", "#0"}, {"mul", "", most + "|#1", most}, {"mul", "", most + "|#-2", "!3"}, {"mul", "", "#-1.5|#-2", "#3"},
		{"round", "1", "#-2.25", "#-2.3"}, {"round", "2", "#2.345", "#2.35"}, {"round", "0", "#2.5", "#3"}, {"round", "0", "#0.499999", "#0"}, {"round", "6", "#0.000001", "#0.000001"}, {"round", "5", "#0.000001", "#0"}, {"round", "3", most, most}, {"round", "7", "#1", "!11"}, {"round", "", "#1", "!11"},
		{"less", "", "#1.9|#2", "?1"}, {"less", "", "#2|#2", "?0"}, {"less", "", "#2|#1.9", "?0"}, {"less", "", "#-3|#-2.5", "?1"}, {"less", "", "#0.1|#0.09", "?0"},
	})
}

func TestDates(t *testing.T) {
	checkCases(t, nil, nil, nil, [][4]string{
		{"read", "D.M.YYYY", "'2.1.0001'", "@0001-01-02"}, {"read", "D.M.YYYY", "'02.1.0001'", "!11"}, {"read", "YYYYMMDD", "'20240229'", "@2024-02-29"}, {"read", "YYYYMMDD", "'20230229'", "!11"}, {"read", "YYYY-MM-DD", "''", "!11"}, {"read", "YYYY-MM-DD", "'2024-02-29 '", "!11"}, {"read", "YYYY", "'2024'", "!11"},
		{"show", "YYYY-MM-DD", "@0001-02-01", "'0001-02-01'"}, {"show", "D.M.YYYY", "@2024-12-31", "'31.12.2024'"}, {"show", "DD/MM (YYYY)", "@9999-12-31", "'31/12 (9999)'"}, {"show", "YYYY", "@2024-12-31", "!11"},
		{"days", "", "@0001-01-06|#-5", "@0001-01-01"}, {"days", "", "@0001-01-06|#-6", "!3"}, {"days", "", "@2024-02-28|#2", "@2024-03-01"}, {"days", "", "@9999-12-31|#0", "@9999-12-31"}, {"days", "", "@9999-12-31|#1", "!3"}, {"days", "", "@0001-01-01|#3652058", "@9999-12-31"}, {"days", "", "@0001-01-01|#3652059", "!3"}, {"days", "", "@0001-01-06|#0.5", "!15"}, {"days", "", "@0001-01-06|#-100000000.5", "!15"}, {"days", "", "@0001-01-06|#1000000000000000", "!3"}, {"days", "", "@0001-01-06|#10", "@0001-01-16"},
		{"between", "", "@0001-01-10|@0001-01-05", "#-5"}, {"between", "", "@0001-01-05|@0001-01-10", "#5"}, {"between", "", "@0001-01-01|@9999-12-31", "#3652058"}, {"between", "", "@2024-02-29|@2024-02-29", "#0"}, {"between", "", "@2024-02-28|@2024-03-09", "#10"},
		{"before", "", "@0001-01-01|@0001-01-02", "?1"}, {"before", "", "@0001-01-02|@0001-01-02", "?0"}, {"before", "", "@0001-01-02|@0001-01-01", "?0"},
	})
}

func TestTruths(t *testing.T) {
	checkCases(t, nil, nil, nil, [][4]string{
		{"equal", "text", "'a'|'a'", "?1"}, {"equal", "text", "'a'|'A'", "?0"}, {"equal", "text", "''|''", "?1"}, {"equal", "number", "#1.5|#1.5", "?1"}, {"equal", "number", "#1.5|#15", "?0"}, {"equal", "date", "@2024-02-29|@2024-02-29", "?1"}, {"equal", "date", "@2024-02-29|@2024-02-28", "?0"}, {"equal", "bool", "?1|?1", "!11"}, {"equal", "table", "[]|[]", "!11"}, {"equal", "number", "#1|'1'", "!14"}, {"equal", "text", "#1|#1", "!14"},
		{"match", `\u\l*`, "'Ada'", "?1"}, {"match", `\u\l*`, "'ADA'", "?0"}, {"match", "", "''", "?1"}, {"match", "", "'a'", "?0"}, {"match", `a`, "'xax'", "?0"}, {"match", `\d{1}`, "'1'", "!11"},
		{"not", "", "?1", "?0"}, {"not", "", "?0", "?1"}, {"and", "", "?0|?0", "?0"}, {"and", "", "?0|?1", "?0"}, {"and", "", "?1|?0", "?0"}, {"and", "", "?1|?1", "?1"}, {"and", "", "?0|!18", "!18"}, {"and", "", "!18|?0", "!18"},
		{"if", "text", "?1|'a'|'b'", "'a'"}, {"if", "text", "?0|'a'|'b'", "'b'"}, {"if", "number", "?0|#1|#2", "#2"}, {"if", "date", "?1|@2024-02-29|@2024-02-28", "@2024-02-29"}, {"if", "bool", "?0|?0|?1", "?1"}, {"if", "bool", "?1|?0|?1", "?0"}, {"if", "table", "?1|[a;#1]|[]", "[a;#1]"}, {"if", "table", "?0|[a;#1]|[]", "[]"},
		{"if", "number", "?1|#1|!11", "#1"}, {"if", "number", "?0|#1|!11", "!11"}, {"if", "number", "?1|!0|#1", "!16"}, {"if", "number", "?0|!0|#1", "#1"}, {"if", "number", "!17|#1|#2", "!17"}, {"if", "number", "!0|!5|!6", "!16"}, {"if", "number", "#1|!5|!6", "!14"}, {"if", "text", "?1|#1|'a'", "!14"}, {"if", "text", "?0|#1|'a'", "'a'"}, {"if", "text", "?0|'a'|#1", "!14"}, {"if", "text", "?1|'a'|#1", "'a'"}, {"if", "text", "?1|'a'", "!14"}, {"if", "text", "?1", "!14"}, {"if", "text", "", "!14"}, {"if", "text", "?1|'a'|'b'|'c'", "!14"}, {"if", "none", "?1|'a'|'b'", "!11"},
	})
	for _, wrong := range append(wrongValues(), wrongFailures()...) {
		checkApply(t, call{op: "if", param: "text", args: list(truth(1), text("a"), wrong)}, text("a"))
		checkApply(t, call{op: "if", param: "text", args: list(truth(0), wrong, text("b"))}, text("b"))
		checkApply(t, call{op: "if", param: "text", args: list(truth(0), text("a"), wrong)}, failed(int(wantedFault(wrong, api.Text))))
		checkApply(t, call{op: "if", param: "text", args: list(truth(1), wrong, text("b"))}, failed(int(wantedFault(wrong, api.Text))))
		checkApply(t, call{op: "if", param: "text", args: list(wrong, text("a"), text("b"))}, failed(int(wantedFault(wrong, api.Bool))))
	}
}

func TestTables(t *testing.T) {
	const prices = "[kind,price,day;'a',#2,!0;'b',#-3,@0001-01-02;'a',#5,!7]"
	base := slices.Concat([]api.Lookup{{Name: "rates", Cols: names("code", "rate")}, lookup("rates", "[code,rate;!0,#9;'x',#1.5;'x',#7;'y',!3;'y',#8]"), lookup("rates", "[code,rate;'q',#1]"), lookup("dates", "[code,day,ok;'x',@0001-01-02,?1;'y',@0001-01-03,?0]")}, someBase())
	base[0].Name = "wrong name"
	checkCases(t, base, nil, nil, [][4]string{
		{"lookup", "rates.code.rate:number", "'x'", "#1.5"}, {"lookup", "rates.code.rate:number", "'y'", "!18"}, {"lookup", "rates.code.rate:number", "'z'", "!18"}, {"lookup", "rates.code.rate:number", "'q'", "!18"}, {"lookup", "rates.code.rate:number", "''", "!18"}, {"lookup", "rates.code.code:text", "'y'", "'y'"}, {"lookup", "dates.code.day:date", "'y'", "@0001-01-03"}, {"lookup", "dates.code.ok:bool", "'x'", "?1"}, {"lookup", "rates.rate.code:text", "'x'", "!18"}, {"lookup", "rates.code.rate:text", "'x'", "!14"}, {"lookup", "rates.code.x:number", "'x'", "!13"}, {"lookup", "rates.code:number", "'x'", "!11"}, {"lookup", "rates.code.rate:number", "#1", "!14"}, {"lookup", "rates.code.rate:number", "!0", "!16"}, {"lookup", "rates.code.rate:number", "", "!14"},
		{"table", "rates", "", "[code,rate;!0,#9;'x',#1.5;'x',#7;'y',!3;'y',#8]"}, {"table", "empty", "", "[a,b]"}, {"table", "none", "", "!13"}, {"table", "rates", "'x'", "!14"},
		{"where", "kind", prices + "|'a'", "[kind,price,day;'a',#2,!0;'a',#5,!7]"}, {"where", "kind", prices + "|'c'", "[kind,price,day]"}, {"where", "price", prices + "|'a'", "[kind,price,day]"}, {"where", "x", prices + "|'a'", "!13"}, {"where", "kind", prices + "|#2", "!14"}, {"where", "kind", "'a'|" + prices, "!14"},
		{"join", "a", "[a,b;#1,#2;#3,#4]|[c,a;#5,#1;#6,#1]", "[a,b,c;#1,#2,#5;#1,#2,#6]"}, {"join", "a", "[a,b;#1,#2]|[b,a;#5,#1]", "!13"}, {"join", "x", "[a]|[a]", "!13"}, {"join", "a", "[a,b,c,d,e]|[a,f,g,h,i]", "!2"}, {"join", "a", "[a;!0]|[a;!0]", "[a]"}, {"join", "a", "[a;#1]|'x'", "!14"},
		{"pick", "price", prices, "[price;#2;#-3;#5]"}, {"pick", "day,kind", prices, "[day,kind;!0,'a';@0001-01-02,'b';!7,'a']"}, {"pick", "kind,x", prices, "!13"}, {"pick", "kind,kind", prices, "!11"}, {"pick", "kind", "!3", "!3"},
		{"sum", "price>=-1", prices, "#4"}, {"sum", "price>=-0.9", prices, "!20"}, {"sum", "kind>=-1", prices, "!14"}, {"sum", "day>=-1", prices, "!14"}, {"sum", "x>=-1", prices, "!13"}, {"sum", "a>=5", "[a]", "#0"}, {"sum", "a>=0", "[a;#1000000000000000;#1]", "!3"}, {"sum", "a>=1.5", "[a;#1.5;#0]", "#1.5"}, {"sum", "a>=1.5", "[a;#1.4;#1]", "!20"},
		{"count", "", prices, "#3"}, {"count", "", "[]", "#0"}, {"count", "", "[;;]", "#2"}, {"count", "", "[a;#1;#1;#1;#1;#1;#1;#1;#1;#1;#1]", "#10"},
		{"first", "price:number", prices, "#2"}, {"first", "kind:text", prices, "'a'"}, {"first", "day:date", prices, "!18"}, {"first", "price:text", prices, "!14"}, {"first", "kind:number", prices, "!14"}, {"first", "x:text", prices, "!13"}, {"first", "x:text", "[a]", "!13"}, {"first", "a:text", "[a]", "!18"}, {"first", "a:text", "[a;!7;'x']", "!18"}, {"first", "a:bool", "[b,a;#1,?1]", "?1"}, {"first", "b:date", "[b,a;@0001-01-02,?1;!0,!0]", "@0001-01-02"}, {"first", "a:table", "[a;'x']", "!11"},
	})
	hundred := tableOf(names("a"), slices.Repeat([][]api.Value{list(number(1, 0))}, 100)...)
	checkApply(t, call{op: "count", args: list(hundred)}, number(100, 0))
	checkApply(t, call{op: "join", param: "a", args: list(hundred, of("[a;#1;#1]")[0])}, failed(2))
	checkApply(t, call{op: "join", param: "a", args: list(hundred, of("[a;#1]")[0])}, hundred)
}

// TestTablesOfTheBaseThatAreNotRight has tables before the one that counts.
func TestTablesOfTheBaseThatAreNotRight(t *testing.T) {
	right, later := lookup("t", "[a,b;'x',#1]"), lookup("t", "[a,b;'x',#2;'y',#3]")
	for _, wrong := range []api.Lookup{{Name: "t"}, {Name: "t", Cols: names("a", "b", "a")}, {Name: "t", Cols: names("a", "b"), Rows: [][]api.Value{list(text("x"), number(7, 0)), list(text("y"), text("z"))}}, {Name: "t", Cols: names("a", "b"), Rows: [][]api.Value{list(text("x"), api.Value{Kind: 9})}}} {
		for _, base := range [][]api.Lookup{{wrong, right, later}, {right, wrong, later}, {wrong, wrong, right, later, wrong}} {
			checkApply(t, call{op: "lookup", param: "t.a.b:number", args: of("'x'"), base: base}, number(1, 0))
			checkApply(t, call{op: "lookup", param: "t.a.b:number", args: of("'y'"), base: base}, failed(18))
			checkApply(t, call{op: "table", param: "t", base: base}, of("[a,b;'x',#1]")[0])
		}
		checkApply(t, call{op: "table", param: "t", base: []api.Lookup{wrong}}, failed(13))
	}
}

// TestArgumentsOfEachOperator has, in place of each argument of each operator, values of the Kind None, of other kinds, and that are not right.
func TestArgumentsOfEachOperator(t *testing.T) {
	params := map[string]string{"extract": `\.#1`, "round": "0", "read": "YYYYMMDD", "show": "YYYYMMDD", "equal": "number", "if": "date", "lookup": "t.a.b:number", "where": "a", "join": "a", "pick": "a", "sum": "a>=0", "first": "a:text"}
	of := []api.Value{{}, text("20240229"), number(1, 0), day(5), truth(1), tableOf(names("a"))}
	for _, op := range operators()[5:] {
		c := call{op: op, param: params[op], base: someBase()}
		kinds, _, e := wantedTypes(op, c.param, c.base, nil)
		if e != api.OK && op != "table" {
			t.Fatalf("the reference: %q, %d", op, e)
		}
		for place, kind := range kinds {
			for _, v := range slices.Concat(wrongValues(), wrongFailures(), of, list(failed(99), failed(1))) {
				c.args = nil
				for _, kind := range kinds {
					c.args = append(c.args, of[kind])
				}
				c.args[place] = v
				want := wantedFault(v, kind)
				if op == "if" && place == 2 {
					want = api.OK
				}
				_, e := oper.Apply(c.op, c.param, c.args, c.base, nil, nil)
				if want != api.OK && e != want || want == api.OK && (e == api.ErrType || e == api.ErrEmpty) {
					t.Errorf("Apply of %s: %d, not %d", c, e, want)
				}
			}
		}
		for count := range 5 {
			_, e := oper.Apply(op, c.param, slices.Repeat(list(failed(7)), count), c.base, nil, nil)
			if want := map[bool]api.Errno{true: 7, false: 14}[count == len(kinds)]; op != "table" && e != want {
				t.Errorf("Apply of %q to %d arguments: %d", op, count, e)
			}
		}
	}
}

// TestFirstErrorOfApply has calls with several errors.
func TestFirstErrorOfApply(t *testing.T) {
	wrong := text("\n")
	for _, c := range []struct {
		op, param string
		args      []api.Value
		e         api.Errno
	}{
		{"x", "\n", list(failed(1)), 13}, {"add", "x", list(failed(1)), 11}, {"lookup", "x.a.b:number", nil, 13}, {"lookup", "t.a.b:text", list(failed(1)), 14}, {"col", "zz", list(failed(1)), 13}, {"add", "", list(failed(1)), 14}, {"add", "", list(failed(1), failed(2), failed(3)), 14},
		{"add", "", list(failed(1), failed(2)), 1}, {"add", "", list(number(1, 0), failed(2)), 2}, {"add", "", list(text("x"), failed(2)), 14}, {"add", "", list(failed(0), text("x")), 16}, {"add", "", list(wrong, failed(2)), 14}, {"add", "", list(failed(3), wrong), 3}, {"add", "", list(number(1e15, 0), wrong), 14},
		{"concat", "", list(failed(100), wrong), 100}, {"concat", "", list(failed(-7), wrong), -7}, {"concat", "", list(api.Value{S: "x"}, wrong), 16}, {"days", "", list(failed(9), number(1, 1)), 9}, {"days", "", list(day(3652059), number(1, 1)), 14}, {"days", "", list(day(3652058), number(11, 1)), 15}, {"days", "", list(day(3652058), number(11, 0)), 3}, {"where", "a", list(failed(5), failed(6)), 5}, {"where", "x", list(tableOf(names("a")), failed(6)), 6}, {"join", "x", list(tableOf(names("a")), text("x")), 14}, {"first", "x:text", list(failed(5)), 5},
		{"col", "a", list(text("x")), 14}, {"col", "a", nil, 1}, {"if", "number", list(failed(4), wrong, wrong), 4}, {"if", "number", list(number(1, 0), failed(4), failed(5)), 14},
	} {
		checkApply(t, call{c.op, c.param, c.args, someBase(), columns("a1b2"), of("!18|'x'")}, failed(int(c.e)))
	}
}

func TestApplyOfSamples(t *testing.T) {
	good := map[string]int{}
	errors := map[string]map[api.Errno]int{}
	const count = 1500
	for _, c := range someCalls(count, 3) {
		got, e := oper.Apply(c.op, c.param, c.args, c.base, c.cols, c.row)
		want, wantErr := wantedApply(c)
		if fields(got) != fields(want) || e != wantErr {
			t.Fatalf("Apply of %s = %s, %d, not %s, %d", c, fields(got), e, fields(want), wantErr)
		}
		if e == api.OK {
			good[c.op]++
		}
		if errors[c.op] == nil {
			errors[c.op] = map[api.Errno]int{}
		}
		errors[c.op][e]++
	}
	for _, op := range operators() {
		if good[op] < count/40 || good[op] > count*19/20 {
			t.Errorf("%d of %d calls of %q are without an error", good[op], count, op)
		}
	}
	for op, own := range map[string][]api.Errno{"concat": {3}, "extract": {18}, "parse": {11}, "add": {3}, "sub": {3}, "mul": {3}, "read": {11}, "days": {15, 3}, "lookup": {18, 13, 14}, "table": {13}, "where": {13}, "join": {13}, "pick": {13}, "sum": {13, 14, 20}, "first": {13, 14, 18}, "col": {1, 13, 16, 18}} {
		for _, e := range own {
			if errors[op][e] < 5 {
				t.Errorf("%d calls of %q have the error %d", errors[op][e], op, e)
			}
		}
	}
}
