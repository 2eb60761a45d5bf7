package abstract_test

import (
	"strings"
	"testing"

	"concord/abstract"
	"concord/api"
)

// P10.3: Join. P10.4: Meet. P10.5: Within.

// checkSets compares the results of Join, Meet and Within, in both orders.
func checkSets(t *testing.T, a, b api.Abstract) {
	t.Helper()
	for range 2 {
		checkResult(t, "Join("+fields(a)+", "+fields(b)+")", abstract.Join(a, b), wantedJoin(a, b))
		checkResult(t, "Meet("+fields(a)+", "+fields(b)+")", abstract.Meet(a, b), wantedMeet(a, b))
		if want := wantedWithin(a, b); abstract.Within(a, b) != want {
			t.Fatalf("Within(%s, %s) is not %t", fields(a), fields(b), want)
		}
		a, b = b, a
	}
}

func TestExamplesOfJoinAndMeet(t *testing.T) {
	for _, c := range []struct{ a, b, join, meet string }{
		{"#1", "#2.5", "number(1..2.5)", "none"}, {"#2.5", "#1", "number(1..2.5)", "none"}, {"#1", "#2", "number(1..2)", "none"}, {"#1", "#1", "number(1..1)", "number(1..1)"}, {"#1", "'x'", "text(1 1 8 1:x 1:x) number(1..1)", "none"}, {"'x'", "#1", "text(1 1 8 1:x 1:x) number(1..1)", "none"},
		{"'ab'", "'acb'", "text(2 3 8 1:a 1:b)", "none"}, {"''", "'A'", "text(0 1 4 0: 0:)", "none"}, {"'x'", "'x'", "text(1 1 8 1:x 1:x)", "text(1 1 8 1:x 1:x)"}, {"?0", "?1", "bool(3)", "none"}, {"?1", "?1", "bool(2)", "bool(2)"}, {"@0001-01-06", "!18", "date(5..5) error", "none"}, {"@0001-01-06", "@0001-01-01", "date(0..5)", "none"}, {"!1", "!2", "error", "error"}, {"!1", "?0", "bool(1) error", "none"},
		{"[a,b;#1,#2]", "[b,c;#1,#2;#3,#4]", "table(1..2 b)", "none"}, {"[]", "[;]", "table(0..1 )", "none"}, {"[a,b;#1,#2;#3,#4]", "[a,b;#1,#2;#3,#2]", "table(2..2 a,b a>b)", "table(2..2 a,b a>b b>a)"}, {"[a,b;#1,#2;#3,#2]", "[a,b;#1,#2;#3,#4]", "table(2..2 a,b a>b)", "table(2..2 a,b a>b b>a)"}, {"[b,a;#1,#2;#3,#4]", "[a,b;#1,#2;#3,#4]", "table(2..2 a,b b>a a>b)", "table(2..2 a,b b>a a>b)"},
		{"[b,a;#1,#2]", "[a,b;#1,#2;#3,#4]", "table(1..2 a,b a>b b>a)", "none"}, {"[a,b;#1,#2;#3,#4]", "[b,a;#1,#2]", "table(1..2 a,b a>b b>a)", "none"}, {"[a,b;#1,#2;#3,#4]", "[a,c;#1,#2;#3,#4]", "table(2..2 a)", "table(2..2 a,b,c a>b b>a a>c c>a)"}, {"[a,b;#1,#2;#3,#4]", "#1", "number(1..1) table(2..2 a,b a>b b>a)", "none"}, {"#1", "[b,a;#1,#2]", "number(1..1) table(1..1 a,b >b >a)", "none"},
		{"[a,b,c,d,e]", "[f,g,h,i,j]", "table(0..0 )", "none"}, {"[a,b,c,d,e]", "[f,g,h,e,a]", "table(0..0 a,e >a >e)", "table(0..0 a,b,c,d,e,f,g,h >a >b >c >d >e >f >g >h)"},
	} {
		a, b := abstract.Of(read(c.a)), abstract.Of(read(c.b))
		if join, meet := wantedText(abstract.Join(a, b)), wantedText(abstract.Meet(a, b)); join != c.join || meet != c.meet {
			t.Errorf("%s and %s: Join = %s, Meet = %s", c.a, c.b, join, meet)
		}
		checkSets(t, a, b)
	}
}

// TestJoinOfDeps has dependencies that follow from others, and such that do so only for the names.
func TestJoinOfDeps(t *testing.T) {
	for _, c := range []struct{ colsA, depsA, colsB, depsB, cols, join string }{
		{"", "a>b b>c", "", "a>c", "", "a>c"}, {"", "a>c", "", "a>b b>c", "", "a>c"}, {"", "a>b b>c a>c", "", "a>c", "", "a>c"}, {"abc", "a>b", "abc", "a,c>b", "a,b,c", "a,c>b"}, {"ab", "a>b", "abc", "a,c>b", "a,b", ""}, {"", "a>b c>c", "", "a,c>b", "", "c>c a,c>b"}, {"", "a>b c>d", "", "a,c>b d,a>b", "", "a,c>b d,a>b"}, {"", "a>b d>c", "", "a,c>b", "", "a,c>b"}, {"", "a>b >c", "", "a,c>b", "", "a,c>b"},
		{"ab", "", "ab", "a>a a,b>b b>a", "a,b", "a>a a,b>b"}, {"a", "", "ab", "a>a a,b>b b>a", "a", "a>a"}, {"a", "b>b", "ab", "a>a a,b>b b>a", "a", "b>b a>a a,b>b"}, {"", "", "", "a>a", "", ""}, {"", "a>b", "", "a>a b>b", "", "a>a b>b"}, {"", "a,a>b", "", "a>b", "", "a,a>b a>b"}, {"", "a>b", "", "a>b a,a>b", "", "a>b a,a>b"}, {"", "a,b>c", "", "b,a>c", "", "a,b>c b,a>c"}, {"", ">a", "", "b>a", "", ""}, {"b", ">a", "b", "b>a", "b", "b>a"}, {"", ">a >b", "", "b>a", "", "b>a"},
		{"", "a>b b>c c>d", "", "a>d", "", "a>d"}, {"", "c>d b>c a>b", "", "a>d", "", "a>d"}, {"", "a>b c>d", "", "a>d b>d", "", ""}, {"", "a>b a>b", "", "a>b", "", "a>b"}, {"", "a>b c>d", "", "c>d a>b", "", "a>b c>d"}, {"", "a,b>c", "", "a>c", "", ""}, {"b", "a,b>c", "b", "a>c", "b", "a,b>c"},
	} {
		a, b := tables(0, 9, c.colsA, c.depsA), tables(0, 9, c.colsB, c.depsB)
		want := "table(0..9 " + c.cols + ")"
		if c.join != "" {
			want = "table(0..9 " + c.cols + " " + c.join + ")"
		}
		if got := wantedText(abstract.Join(a, b)); got != want {
			t.Errorf("Join(%s, %s) = %s, not %s", fields(a), fields(b), got, want)
		}
		checkSets(t, a, b)
	}
}

// TestJoinWithEmptyParts has a part of Table that is empty for several reasons.
func TestJoinWithEmptyParts(t *testing.T) {
	some := tables(1, 2, "ab", "a>b c>b")
	for _, other := range []api.Abstract{nothing(), abstract.Full(1), tables(2, 1, "ab", "a>b"), tables(101, 200, "ab", "a>b"), tables(0, 9, "abcdefghi", "a>b"), tables(0, 9, "9", "a>b")} {
		rest := wantedForm(other)
		want := wantedForm(some)
		want.Kinds |= rest.Kinds
		want.Texts = rest.Texts
		checkResult(t, "Join", abstract.Join(some, other), want)
		checkResult(t, "Join", abstract.Join(other, some), want)
		checkResult(t, "Meet", abstract.Meet(some, other), nothing())
		checkSets(t, some, other)
	}
}

func TestExamplesOfWithin(t *testing.T) {
	all := everything()
	small := tables(1, 2, "ab", "a>b")
	for _, c := range []struct {
		a, b api.Abstract
		want bool
	}{
		{all, all, true}, {nothing(), nothing(), true}, {nothing(), all, true}, {all, nothing(), false}, {api.Abstract{Kinds: 16, Bools: 4}, nothing(), true}, {abstract.Full(0), nothing(), false}, {abstract.Full(0), abstract.Full(0), true}, {abstract.Full(0), all, true}, {abstract.Full(1), abstract.Full(0), false}, {abstract.Full(1), abstract.Full(2), false}, {abstract.Full(1), all, true}, {abstract.Join(abstract.Full(1), abstract.Full(0)), abstract.Full(1), false},
		{abstract.Of(read("'ab'")), abstract.Full(1), true}, {abstract.Full(1), abstract.Of(read("'ab'")), false}, {abstract.Of(read("#1")), api.Abstract{Kinds: 4, Numbers: api.Range{High: api.Dec{N: 1}}}, true}, {abstract.Of(read("#1.1")), api.Abstract{Kinds: 4, Numbers: api.Range{High: api.Dec{N: 1}}}, false},
		{api.Abstract{Kinds: 8, Dates: api.Span{Low: -9, High: 3}}, api.Abstract{Kinds: 8, Dates: api.Span{Low: 0, High: 3}}, true}, {api.Abstract{Kinds: 8, Dates: api.Span{Low: 0, High: 3}}, api.Abstract{Kinds: 8, Dates: api.Span{Low: 1, High: 3}}, false}, {api.Abstract{Kinds: 8, Dates: api.Span{Low: 1, High: 4}}, api.Abstract{Kinds: 8, Dates: api.Span{Low: 1, High: 3}}, false}, {api.Abstract{Kinds: 8, Dates: api.Span{Low: 1, High: 1}}, api.Abstract{Kinds: 8, Dates: api.Span{Low: 0, High: 3}}, true},
		{abstract.Of(truth(0)), abstract.Full(4), true}, {abstract.Of(truth(0)), abstract.Of(truth(1)), false}, {abstract.Full(4), abstract.Of(truth(1)), false}, {api.Abstract{Kinds: 16, Bools: 6}, abstract.Of(truth(1)), true},
		{small, small, true}, {small, tables(1, 1, "ab", "a>b"), false}, {small, tables(2, 2, "ab", "a>b"), false}, {small, tables(0, 9, "ab", "a>b"), true}, {tables(100, 200, "", ""), tables(99, 100, "", ""), true}, {small, tables(1, 2, "a", "a>b"), true}, {small, tables(1, 2, "a", ""), true}, {small, tables(1, 2, "ab", "a>b b>a"), false}, {small, tables(1, 2, "ab", "a,b>b a,a>b a>a b>b"), true}, {small, tables(1, 2, "abc", "a>b"), false}, {small, tables(1, 2, "ab", "c>c"), false}, {small, tables(1, 2, "ab", "a,c>b"), false},
		{small, tables(1, 2, "aba", "a>b a>b"), true}, {small, tables(1, 2, "ab9", ""), false}, {tables(2, 1, "", ""), small, true}, {small, tables(2, 1, "", ""), false}, {abstract.Full(2), tables(0, 9, "ab", "a>b"), false}, {abstract.Full(2), abstract.Join(abstract.Full(2), small), true}, {abstract.Join(abstract.Full(2), small), small, false}, {abstract.Join(abstract.Full(2), small), abstract.Full(2), false},
		{api.Abstract{Kinds: 32, Rows: small.Rows, Deps: deps("a>b b>c")}, api.Abstract{Kinds: 32, Rows: small.Rows, Deps: deps("a>c")}, true}, {api.Abstract{Kinds: 32, Rows: small.Rows, Deps: deps("a>c")}, api.Abstract{Kinds: 32, Rows: small.Rows, Deps: deps("a>b b>c")}, false},
	} {
		if abstract.Within(c.a, c.b) != c.want {
			t.Errorf("Within(%s, %s) is not %t", fields(c.a), fields(c.b), c.want)
		}
		checkSets(t, c.a, c.b)
	}
}

func TestSetsOfSamples(t *testing.T) {
	s := &samples{state: 8}
	within, withTables, withDeps, met := 0, 0, 0, 0
	const tries = 15000
	for range tries {
		a, b := s.pair()
		checkSets(t, a, b)
		if wantedWithin(a, b) {
			within++
			if wantedForm(a).Kinds&32 != 0 {
				withTables++
			}
		}
		if len(wantedJoin(a, b).Deps) > 0 && wantedForm(a).Kinds&wantedForm(b).Kinds&32 != 0 {
			withDeps++
		}
		if wantedMeet(a, b).Kinds != 0 {
			met++
		}
	}
	if within < tries/10 || within > tries*9/10 || withTables < tries/50 || withDeps < tries/20 || met < tries/5 || met > tries*9/10 {
		t.Errorf("of %d pairs %d are within each other, %d with tables, %d have common dependencies, %d common values", tries, within, withTables, withDeps, met)
	}
}

// TestSetsOfAllForms has each pair of some abstract values, of which many are extreme.
func TestSetsOfAllForms(t *testing.T) {
	l := someAbstracts(90, 9)
	for _, a := range l {
		for _, b := range l {
			checkSets(t, a, b)
		}
	}
}

// TestSetsOfSmallDeps has all pairs of lists of at most two dependencies between three names.
func TestSetsOfSmallDeps(t *testing.T) {
	var all []api.Abstract
	one := strings.Fields(">a >b a>b b>a a>c b>c a,b>c c>c b,c>a")
	for i, first := range one {
		all = append(all, tables(0, 1, "a", first))
		for _, second := range one[i:] {
			all = append(all, tables(0, 1, "ab", second+" "+first))
		}
	}
	for _, a := range all {
		for _, b := range all {
			checkSets(t, a, b)
		}
	}
}
