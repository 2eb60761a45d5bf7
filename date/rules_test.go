package date_test

import (
	"fmt"
	"sync"
	"testing"

	"concord/date"
)

// The rules R2 and R4 of DOC.md and the promise P1, for all functions of the package.

// arguments are arguments for all functions.
type arguments struct {
	year, month, day, n, by int
	layout, s               string
}

// someArguments returns arguments of all forms: dates and others, layouts that are right and others.
func someArguments() []arguments {
	s := &samples{state: 10}
	extreme, none := extremeInts(), notNumbers()
	bytes := func() string {
		var l []byte
		for range s.below(50) {
			l = append(l, "YMD-.0129 \x00\xff"[s.below(12)])
		}
		return string(l)
	}
	var l []arguments
	for range 3000 {
		x := arguments{1 + s.below(9999), 1 + s.below(12), 1 + s.below(31), s.number(), s.below(2001) - 1000, anyLayout(s), bytes()}
		if s.below(2) == 0 {
			x.s = inLayout(x.layout, civil{x.year, x.month, x.day})
		}
		switch s.below(6) {
		case 0:
			x.year, x.month, x.n = element(s, extreme), element(s, extreme), element(s, none)
		case 1:
			x.day, x.by = element(s, extreme), element(s, extreme)
		case 2:
			x.layout, x.s = bytes(), bytes()
		}
		l = append(l, x)
	}
	return l
}

// result is the result of a call, as text, and the boolean beside it.
type result struct {
	call, text string
	ok         bool
}

// allResults returns the results of all calls with these arguments.
func allResults(x arguments) []result {
	number, isDate := date.Number(x.year, x.month, x.day)
	year, month, day, ok := date.Civil(x.n)
	weekday, isDay := date.Weekday(x.n)
	sum, added := date.Add(x.n, x.by)
	later, moved := date.Months(x.n, x.by)
	parsed, isText := date.Parse(x.s)
	text, formatted := date.Format(x.layout, x.n)
	found, read := date.Read(x.layout, x.s)
	return []result{
		{"Number", fmt.Sprint(number), isDate}, {"Civil", fmt.Sprint(year, month, day), ok}, {"Weekday", fmt.Sprint(weekday), isDay}, {"Add", fmt.Sprint(sum), added}, {"Months", fmt.Sprint(later), moved},
		{"Parse", fmt.Sprint(parsed), isText}, {"Format", text, formatted}, {"Read", fmt.Sprint(found), read}, {"Text", date.Text(x.n), ok}, {"Valid", fmt.Sprint(date.Valid(x.year, x.month, x.day)), true},
	}
}

// TestNoResultIsZero also shows that no call panics (P1).
func TestNoResultIsZero(t *testing.T) {
	returned := map[string]int{}
	for _, x := range someArguments() {
		for _, r := range allResults(x) {
			if r.ok {
				returned[r.call]++
				continue
			}
			if r.text != "" && r.text != "0" && r.text != "0 0 0" {
				t.Fatalf("%s of %#v = %s, false", r.call, x, r.text)
			}
		}
	}
	for _, call := range []string{"Number", "Civil", "Weekday", "Add", "Months", "Format", "Read", "Text"} {
		if returned[call] < 300 || call != "Text" && returned[call] == len(someArguments()) {
			t.Errorf("%s was true for %d arguments", call, returned[call])
		}
	}
}

// TestResultsDependOnArgumentsOnly repeats calls in another order, and in several goroutines.
func TestResultsDependOnArgumentsOnly(t *testing.T) {
	all := someArguments()
	want := make([]string, len(all))
	for i, x := range all {
		want[i] = fmt.Sprint(allResults(x))
	}
	var group sync.WaitGroup
	for range 4 {
		group.Go(func() {
			for i := len(all) - 1; i >= 0; i-- {
				if fmt.Sprint(allResults(all[i])) != want[i] {
					t.Errorf("other results for %#v", all[i])
				}
			}
		})
	}
	group.Wait()
}
