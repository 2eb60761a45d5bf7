package pattern_test

import (
	"fmt"
	"slices"
	"sync"
	"testing"

	"concord/api"
	"concord/pattern"
)

// The rules R1 to R4 of DOC.md and the promise P1, for all functions of the package. (R5 is in the tests of long patterns and texts.)

// arguments are arguments for all functions.
type arguments struct {
	p, q []api.Piece
	s    string
	nth  int
	c    byte
}

// someArguments returns arguments of all forms: patterns that are right and others, texts and others.
func someArguments() []arguments {
	s := &samples{state: 10}
	wrong := wrongPatterns()
	var l []arguments
	for range 3000 {
		x := arguments{p: s.pattern(4), nth: s.below(5) - 1, c: byte(s.below(256))}
		x.q, x.s = s.change(x.p), s.subject(x.p)
		switch s.below(6) {
		case 0:
			x.p = element(s, wrong)
		case 1:
			x.q = s.change(s.change(x.q))
		case 2:
			x.s = form(x.p) + x.s
		case 3:
			x.s = form(x.p)
		}
		l = append(l, x)
	}
	return l
}

// everything returns the results of all calls as a text.
func everything(x arguments) string {
	parsed, at, e := pattern.Parse(x.s)
	from, to, ok := pattern.Find(x.p, x.s, x.nth)
	return fmt.Sprint(parsed, at, e, from, to, ok, pattern.Print(x.p), pattern.Print(x.q), pattern.Class(x.c), pattern.Matches(x.p, x.s), pattern.Matches(x.q, x.s), pattern.Count(x.p, x.s), pattern.Covers(x.p, x.q), pattern.Covers(x.q, x.p))
}

// TestNoResultIsZero also shows that no call panics (P1).
func TestNoResultIsZero(t *testing.T) {
	parsedForms, found := 0, 0
	all := someArguments()
	for _, x := range all {
		p, at, e := pattern.Parse(x.s)
		if e != api.OK && len(p) != 0 || e == api.OK && at != 0 {
			t.Fatalf("Parse(%q) = %v, %d, %d", x.s, p, at, e)
		}
		from, to, ok := pattern.Find(x.p, x.s, x.nth)
		if !ok && (from != 0 || to != 0) {
			t.Fatalf("Find(%v, %q, %d) = %d, %d, false", x.p, x.s, x.nth, from, to)
		}
		if e == api.OK {
			parsedForms++
		}
		if ok {
			found++
		}
		everything(x)
	}
	for _, count := range []int{parsedForms, found} {
		if count < 300 || count > len(all)-300 {
			t.Errorf("%d of %d calls had a result", count, len(all))
		}
	}
}

func TestNilIsEmpty(t *testing.T) {
	empty := []api.Piece{}
	all := parsed(t, `\.*`)
	for _, s := range []string{"", "a"} {
		if pattern.Matches(nil, s) != (s == "") || pattern.Matches(empty, s) != (s == "") || pattern.Count(nil, s) != 0 || pattern.Count(empty, s) != 0 {
			t.Errorf("a pattern without pieces, and %q", s)
		}
	}
	for _, p := range [][]api.Piece{nil, empty} {
		if pattern.Print(p) != "" || !pattern.Covers(p, nil) || !pattern.Covers(p, empty) || !pattern.Covers(nil, p) || !pattern.Covers(empty, p) || !pattern.Covers(all, p) || pattern.Covers(p, all) {
			t.Errorf("the pattern %#v", p)
		}
	}
}

// TestArgumentsAreNotModified also shows that they are not used behind their length.
func TestArgumentsAreNotModified(t *testing.T) {
	for _, x := range someArguments() {
		before := arguments{p: append(slices.Clone(x.p), api.Piece{Text: "behind"}), q: slices.Clone(x.q)}
		x.p = before.p[:len(x.p)]
		kept := slices.Clone(before.p)
		everything(x)
		if !slices.Equal(before.p, kept) || !slices.Equal(x.q, before.q) {
			t.Fatalf("%v and %v became %v and %v", kept, before.q, before.p, x.q)
		}
	}
}

// TestResultsAreNotShared changes a result between two equal calls.
func TestResultsAreNotShared(t *testing.T) {
	for _, s := range []string{`\d{4}-\d+`, "a", `\u\l*`} {
		first := parsed(t, s)
		kept := slices.Clone(first)
		clear(first[:cap(first)])
		if second := parsed(t, s); !slices.Equal(second, kept) {
			t.Errorf("Parse(%q) = %v, not %v", s, second, kept)
		}
	}
}

// TestResultsDependOnArgumentsOnly repeats calls in another order, and in several goroutines.
func TestResultsDependOnArgumentsOnly(t *testing.T) {
	all := someArguments()
	want := make([]string, len(all))
	for i, x := range all {
		want[i] = everything(x)
	}
	var group sync.WaitGroup
	for range 4 {
		group.Go(func() {
			for i := len(all) - 1; i >= 0; i-- {
				if everything(all[i]) != want[i] {
					t.Errorf("other results for %#v", all[i])
				}
			}
		})
	}
	group.Wait()
}
