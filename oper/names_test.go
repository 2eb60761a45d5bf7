package oper_test

import (
	"slices"
	"strings"
	"testing"

	"concord/oper"
)

// P11.1: Names, Lazy, Reads.

func TestNames(t *testing.T) {
	if l := oper.Names(); !slices.Equal(l, operators()) {
		t.Errorf("Names = %q", l)
	}
}

// TestNamesAreAllOperators has Types of each operator, of some parameter, and strings that are no operators.
func TestNamesAreAllOperators(t *testing.T) {
	for _, op := range oper.Names() {
		if _, _, e := oper.Types(op, "\n", nil, nil); e != 11 {
			t.Errorf("Types of %q: %d", op, e)
		}
	}
	for _, op := range names("", " ", "Col", "cols", "co", "col ", "IF", "#", "div", "x", "\x00", strings.Repeat("if", 1000)) {
		for _, param := range names("", "a", "text", "0") {
			if kinds, kind, e := oper.Types(op, param, nil, columns("a1")); e != 13 || len(kinds) > 0 || kind != 0 {
				t.Errorf("Types of %q: %v, %d, %d", op, kinds, kind, e)
			}
		}
	}
}

func TestLazy(t *testing.T) {
	for _, op := range append(operators(), "", "If", "if ", "ifs", "x") {
		if oper.Lazy(op) != (op == "if") {
			t.Errorf("Lazy(%q) = %t", op, oper.Lazy(op))
		}
	}
}

func TestReads(t *testing.T) {
	long := strings.Repeat("n", 20)
	for _, c := range []struct{ op, param, want string }{
		{"lookup", "rates.code.rate:number", "rates"}, {"lookup", "t.t.t:text", "t"}, {"lookup", long + ".a.b:bool", long}, {"lookup", "A_1.a.b:date", "A_1"},
		{"lookup", "t.a.b:table", ""}, {"lookup", "t.a.b", ""}, {"lookup", "t.a.b:", ""}, {"lookup", "t.a:text", ""}, {"lookup", "t.a.b.c:text", ""}, {"lookup", ".a.b:text", ""}, {"lookup", "t..b:text", ""}, {"lookup", "t.a.:text", ""}, {"lookup", "t.a.b:text ", ""}, {"lookup", "t.a.b::text", ""}, {"lookup", "t:text", ""}, {"lookup", "t", ""}, {"lookup", "", ""}, {"lookup", long + "n.a.b:bool", ""}, {"lookup", "t.1.b:text", ""}, {"lookup", "t.a.b c:text", ""}, {"lookup", "1.a.b:text", ""}, {"lookup", "t,a,b:text", ""},
		{"table", "rates", "rates"}, {"table", long, long}, {"table", "Z_9", "Z_9"}, {"table", "", ""}, {"table", "1", ""}, {"table", "_", ""}, {"table", "bad name", ""}, {"table", long + "n", ""}, {"table", "t.a.b:text", ""}, {"table", "t,u", ""}, {"table", "t\n", ""}, {"table", "é", ""},
		{"", "t", ""}, {"", "t.a.b:text", ""}, {"tables", "t", ""}, {"Table", "t", ""}, {"lookups", "t.a.b:text", ""},
	} {
		if got := oper.Reads(c.op, c.param); got != c.want {
			t.Errorf("Reads(%q, %q) = %q", c.op, c.param, got)
		}
	}
	for _, op := range operators() {
		if op != "lookup" && op != "table" && (oper.Reads(op, "t") != "" || oper.Reads(op, "t.a.b:text") != "" || oper.Reads(op, "") != "") {
			t.Errorf("Reads of %q", op)
		}
	}
}

func TestReadsOfSamples(t *testing.T) {
	s := &samples{state: 1}
	some := 0
	const tries = 4000
	for range tries {
		op := element(s, names("lookup", "lookup", "table", "where", "x"))
		param := s.parameter(op)
		if s.below(4) == 0 {
			param = s.changed(param)
		}
		want, _, _ := readsOf(op, param)
		if got := oper.Reads(op, param); got != want {
			t.Fatalf("Reads(%q, %q) = %q, not %q", op, param, got, want)
		}
		if want != "" {
			some++
		}
	}
	if some < tries/8 || some > tries*7/8 {
		t.Errorf("%d of %d calls have a name", some, tries)
	}
}
