package value_test

import (
	"fmt"
	"slices"
	"strings"
	"testing"

	"concord/api"
	"concord/value"
)

// P6.4: Text, Read.

// checkText compares the Text of a right value with what is wanted, and Read of it with the value.
func checkText(t *testing.T, v api.Value, want string) {
	t.Helper()
	if got := value.Text(v); got != want {
		t.Fatalf("Text(%s) = %q, not %q", fields(v), got, want)
	}
	if back, ok := value.Read(want); !ok || fields(back) != fields(v) {
		t.Fatalf("Read(%q) = %s, %t", want, fields(back), ok)
	}
}

// checkNoText reports a string that Read takes for a text.
func checkNoText(t *testing.T, s string) {
	t.Helper()
	if v, ok := value.Read(s); ok || fields(v) != fields(api.Value{}) {
		t.Fatalf("Read(%q) = %s, %t", s, fields(v), ok)
	}
}

// checkRead compares Read of a string with the reference, and returns whether there is a value.
func checkRead(t *testing.T, s string) bool {
	t.Helper()
	want, wantOk := valueWith(s)
	if v, ok := value.Read(s); ok != wantOk || fields(v) != fields(want) {
		t.Fatalf("Read(%q) = %s, %t, not %s, %t", s, fields(v), ok, fields(want), wantOk)
	}
	return wantOk
}

func TestTextsOfTheTable(t *testing.T) {
	checkText(t, failed(18), "!18")
	checkText(t, api.Value{}, "!0")
	checkText(t, text("it's"), "'it''s'")
	checkText(t, number(35, 1), "#3.5")
	checkText(t, day(0), "@0001-01-01")
	checkText(t, truth(0), "?0")
	checkText(t, truth(1), "?1")
	checkText(t, table(names("a", "b"), row(text("x"), number(2, 0))), "[a,b;'x',#2]")
	checkNoText(t, "#1.0")
	checkNoText(t, "?2")
}

func TestTextsAtTheEdge(t *testing.T) {
	eight := "a,b,c,d,e,f,g,h"
	for want, v := range map[string]api.Value{
		"''": text(""), "''''": text("'"), "''''''": text("''"), "'a''''b'": text("a''b"), "'''a'": text("'a"), "'a'''": text("a'"), "'#1'": text("#1"), "'[a;b],|'": text("[a;b],|"), "' ~'": text(" ~"), `'\"'`: text(`\"`),
		"'" + strings.Repeat("''", 200) + "'": text(strings.Repeat("'", 200)), "'" + strings.Repeat("x", 200) + "'": text(strings.Repeat("x", 200)),
		"!9": failed(9), "!10": failed(10), "!99": failed(99), "#0": number(0, 0), "#-1": number(-1, 0), "#10": number(10, 0), "#0.000001": number(1, 6), "#-0.05": number(-5, 2), "#1000000000000000": number(1e15, 0), "#-1000000000000000": number(-1e15, 0), "#999999999.999999": number(999999999999999, 6),
		"@9999-12-31": day(3652058), "@2000-02-29": day(730178),
		"[]": table(nil), "[;]": table(nil, nil), "[;;;]": table(nil, nil, nil, nil), "[a]": table(names("a")), "[a_1,B]": table(names("a_1", "B")), "[a;!0]": table(names("a"), row(failed(0))), "[a;!0;'']": table(names("a"), row(failed(0)), row(text(""))),
		"[a;'];,|[''']": table(names("a"), row(text("];,|['"))), "[a,b;#-1.5,@0001-01-02;?1,!3]": table(names("a", "b"), row(number(-15, 1), day(1)), row(truth(1), failed(3))),
		"[" + eight + "]": table(strings.Split(eight, ",")), "[" + strings.Repeat(";", 100) + "]": table(nil, make([][]api.Value, 100)...), "[a" + strings.Repeat(";#7", 100) + "]": table(names("a"), slices.Repeat([][]api.Value{row(number(7, 0))}, 100)...),
		"[" + strings.Repeat("n", 20) + "]": table(names(strings.Repeat("n", 20))),
	} {
		checkText(t, v, want)
	}
}

func TestStringsThatAreNoTexts(t *testing.T) {
	long := strings.Repeat("x", 201)
	for _, s := range []string{
		"", " ", "x", "a", "0", "1.5", "true", "2024-01-01", "-", ";", ",", "|", "]", "\x00", "!", "?", "#", "@", "'", "[", "''x", " ''", "'' ", "!0 ", " !0", "!0\n", "\n!0",
		"!00", "!01", "!018", "!100", "!-1", "!-0", "!+1", "! 1", "!1 ", "!1.0", "!a", "!0x1", "!1_0", "!0b1", "!!", "!1!2", "!99999999999999999999", "!18446744073709551616",
		"'a", "a'", "'''", "'a'b'", "'a''", "'''''", "'a'b", "'a' ", "''''b", "'\x1f'", "'\x7f'", "'\n'", "'\x00'", "'ä'", "'\xff'", "'" + long + "'", "'" + strings.Repeat("''", 201) + "'", "\"a\"",
		"#1.0", "#01", "#00", "#-0", "#+1", "#1.", "#.5", "#-.5", "#1.50", "#0.0", "#0.0000001", "#1e3", "#1000000000000001", "#-1000000000000001", "#1000000000.0000001", "#9999999999.999999", "# 1", "#1 ", "#--1", "#1-", "#1,5", "#1;", "#1]", "#1|", "#NaN", "#0x1", "#1_000", "##1", "#'1'", "#99999999999999999999999",
		"@0000-12-31", "@10000-01-01", "@2024-02-30", "@2023-02-29", "@2024-2-3", "@2024-02-3", "@24-02-03", "@2024/02/03", "@02024-02-03", "@-001-01-01", "@2024-00-01", "@2024-13-01", "@2024-01-00", "@2024-01-32", "@2024-01-01 ", "@ 2024-01-01", "@0", "@@2024-01-01", "@2024-01-01|", "@2024-01-01]",
		"?2", "?-1", "?00", "?01", "?true", "?1 ", "??1", "?+1", "?10", "?a", "?1]", "?0|?1", "''|''", "[]|[]", "''''|", "|!0", "!0|",
		"[", "[a", "a]", "[]]", "[[]", "[[]]", "[] ", " []", "[ ]", "[;", "[;;", "[,]", "[a,]", "[,a]", "[a,,b]", "[a b]", "[ a]", "[a ]", "[1]", "[_]", "[_a]", "[a-b]", "[ä]", "[']", "['a']", "[a,a]", "[a,b,a]", "[" + strings.Repeat("n", 21) + "]",
		"[a;]", "[a;;]", "[a;#1;]", "[a;;#1]", "[;#1]", "[;;#1]", "[;#1;]", "[a;#1", "[a;'x]", "[a;'x", "[a;x]", "[a;#1.0]", "[a;#1,#2]", "[a;,]", "[a;#1,]", "[a;,#1]", "[a,b;#1]", "[a,b;#1,#2,#3]", "[a,b;#1,#2;#3]", "[a,b;#1;#2]", "[a,b;]", "[a,b;,]", "[a,b;#1#2]", "[a;#1]x", "[a;#1]]", "[a;#1|#2]", "[a|b]", "[a;#1][b]", "[a #1]", "[a;?2]", "[a;!100]", "[a;'" + long + "']",
		"[a;[]]", "[a;[b;#1]]", "[a;[;]]", "[a;[a]]", "[a,b;#1,[]]", "[a,b;[],#1]", "[a,b,c,d,e,f,g,h,i]", "[a,b,c,d,e,f,g,h,i;" + strings.Repeat("#1,", 8) + "#1]", "[" + strings.Repeat(";", 101) + "]", "[a" + strings.Repeat(";#7", 101) + "]", "(a)", "{a}",
	} {
		checkNoText(t, s)
		checkRead(t, s)
	}
}

func TestTextsOfWrongValues(t *testing.T) {
	for _, v := range wrongValues() {
		if s := value.Text(v); s != "" {
			t.Errorf("Text(%s) = %q", fields(v), s)
		}
		checkRead(t, textOf(v))
	}
}

func TestTextsOfRightValues(t *testing.T) {
	for _, v := range rightAtTheEdge() {
		checkText(t, v, textOf(v))
		checkRead(t, textOf(v))
	}
}

func TestTextsOfSamples(t *testing.T) {
	s := &samples{state: 6}
	for range 20000 {
		v := s.value()
		checkText(t, v, textOf(v))
		for range 2 {
			v = s.change(v)
			if got, want := value.Text(v), wantedText(v); got != want {
				t.Fatalf("Text(%s) = %q, not %q", fields(v), got, want)
			}
		}
	}
}

// TestAllDatesAndErrors also shows that texts of numbers are decimal.
func TestAllDatesAndErrors(t *testing.T) {
	for n := range 100 {
		checkText(t, failed(n), fmt.Sprintf("!%d", n))
	}
	for n := 0; n <= 3652058; n += 997 {
		checkText(t, day(n), textOf(day(n)))
	}
}

func TestReadOfChangedTexts(t *testing.T) {
	s := &samples{state: 7}
	right := 0
	for range 40000 {
		text := textOf(s.value())
		for range 3 {
			text = s.changeString(text)
			if checkRead(t, text) {
				right++
			}
		}
	}
	if right < 4000 || right > 116000 {
		t.Errorf("%d changed texts are right", right)
	}
}

// stringsOf calls a function with all strings of at most so many parts.
func stringsOf(parts []string, most int, f func(s string)) {
	for count := range most + 1 {
		longerStrings(parts, count, "", f)
	}
}

// longerStrings calls a function with all strings that have so many parts behind their front.
func longerStrings(parts []string, count int, front string, f func(s string)) {
	if count == 0 {
		f(front)
		return
	}
	for _, part := range parts {
		longerStrings(parts, count-1, front+part, f)
	}
}

func TestReadOfAllSmallStrings(t *testing.T) {
	count := 0
	stringsOf(strings.Split("!'#@?[];,|a01-. ", ""), 4, func(s string) {
		if checkRead(t, s) {
			count++
		}
	})
	if count < 200 {
		t.Errorf("%d strings are texts", count)
	}
}

func TestReadOfAllSmallTables(t *testing.T) {
	count := 0
	stringsOf([]string{"a", "b", ",", ";", "#1", "'", "]", "["}, 5, func(s string) {
		if checkRead(t, "["+s) {
			count++
		}
	})
	if count < 50 {
		t.Errorf("%d strings are texts", count)
	}
}

// TestReadTablesAreSeparate appends to the rows of a table that was read.
func TestReadTablesAreSeparate(t *testing.T) {
	for _, s := range []string{"[a;#1;#2;#3]", "[a,b,c;#1,#2,#3;'',!0,?1]", "[;;;]"} {
		v, ok := value.Read(s)
		if !ok {
			t.Fatalf("Read(%q)", s)
		}
		checkSeparateRows(t, v)
	}
}
