package interval_test

import (
	"math"
	"math/big"
	"testing"

	"concord/api"
	"concord/interval"
)

// P7.7: JoinSpan, MeetSpan, AddSpan.

func emptySpan() api.Span { return api.Span{Low: 1} }

// smallSpans returns all spans from -least to least, also those without elements.
func smallSpans(least int) []api.Span {
	var l []api.Span
	for low := -least; low <= least; low++ {
		for high := -least; high <= least; high++ {
			l = append(l, api.Span{Low: low, High: high})
		}
	}
	return l
}

// span returns a span of any ints, many of which are next to the ends of the type.
func (s *samples) span() api.Span {
	ints := extremeInts()
	a := api.Span{Low: element(s, ints), High: element(s, ints)}
	switch s.below(4) {
	case 0:
		a = api.Span{Low: s.below(21) - 10, High: s.below(21) - 10}
	case 1:
		a.Low = s.below(4000000) - 1000
	}
	if s.below(5) > 0 && a.Low > a.High {
		a.Low, a.High = a.High, a.Low
	}
	return a
}

func someSpans(count int, state uint64) []api.Span {
	s := &samples{state: state}
	l := []api.Span{{}, emptySpan(), {Low: math.MinInt, High: math.MaxInt}, {Low: math.MaxInt, High: math.MinInt}, {Low: math.MinInt, High: math.MinInt}, {Low: math.MaxInt, High: math.MaxInt}, {High: api.MaxDay}}
	for range count {
		l = append(l, s.span())
	}
	return l
}

// spanOf returns a span as it is returned, of two numbers of which each is an int, if there are elements.
func spanOf(low, high *big.Int) api.Span {
	if low.Cmp(high) > 0 {
		return emptySpan()
	}
	return api.Span{Low: int(low.Int64()), High: int(high.Int64())}
}

func exactInt(n int) *big.Int { return big.NewInt(int64(n)) }

// checkSums compares the results of AddSpan, and returns the boolean.
func checkSums(t *testing.T, a, b, limits api.Span) bool {
	t.Helper()
	got, gotAll := interval.AddSpan(a, b, limits)
	want, all := emptySpan(), true
	if a.Low <= a.High && b.Low <= b.High {
		low, high := exactInt(a.Low), exactInt(a.High)
		low.Add(low, exactInt(b.Low))
		high.Add(high, exactInt(b.High))
		least, greatest := exactInt(limits.Low), exactInt(limits.High)
		all = least.Cmp(low) <= 0 && high.Cmp(greatest) <= 0
		if low.Cmp(least) > 0 {
			least = low
		}
		if high.Cmp(greatest) < 0 {
			greatest = high
		}
		want = spanOf(least, greatest)
	}
	if got != want || gotAll != all {
		t.Fatalf("AddSpan(%v, %v, %v) = %v, %t, not %v, %t", a, b, limits, got, gotAll, want, all)
	}
	return gotAll
}

func TestExamplesOfSpans(t *testing.T) {
	for _, c := range []struct{ a, b, join, meet api.Span }{
		{api.Span{Low: 1, High: 3}, api.Span{Low: 2, High: 5}, api.Span{Low: 1, High: 5}, api.Span{Low: 2, High: 3}}, {api.Span{Low: 1, High: 2}, api.Span{Low: 4, High: 5}, api.Span{Low: 1, High: 5}, emptySpan()}, {api.Span{Low: 1, High: 2}, api.Span{Low: 2, High: 3}, api.Span{Low: 1, High: 3}, api.Span{Low: 2, High: 2}}, {api.Span{Low: -4, High: 4}, api.Span{}, api.Span{Low: -4, High: 4}, api.Span{}},
		{api.Span{Low: 9, High: 5}, api.Span{Low: 1, High: 2}, api.Span{Low: 1, High: 2}, emptySpan()}, {api.Span{Low: 9, High: 5}, api.Span{Low: 4, High: 3}, emptySpan(), emptySpan()}, {api.Span{Low: 9, High: 5}, api.Span{Low: 1, High: 20}, api.Span{Low: 1, High: 20}, emptySpan()}, {api.Span{Low: math.MinInt, High: 0}, api.Span{Low: -1, High: math.MaxInt}, api.Span{Low: math.MinInt, High: math.MaxInt}, api.Span{Low: -1}},
	} {
		if r, other := interval.JoinSpan(c.a, c.b), interval.JoinSpan(c.b, c.a); r != c.join || other != c.join {
			t.Errorf("JoinSpan of %v and %v = %v, %v", c.a, c.b, r, other)
		}
		if r, other := interval.MeetSpan(c.a, c.b), interval.MeetSpan(c.b, c.a); r != c.meet || other != c.meet {
			t.Errorf("MeetSpan of %v and %v = %v, %v", c.a, c.b, r, other)
		}
	}
}

func TestExamplesOfAddSpan(t *testing.T) {
	const least, most = math.MinInt, math.MaxInt
	for _, c := range []struct {
		a, b, limits, want api.Span
		all                bool
	}{
		{api.Span{Low: 1, High: 2}, api.Span{Low: 5, High: 9}, api.Span{High: 10}, api.Span{Low: 6, High: 10}, false}, {api.Span{Low: 1, High: 2}, api.Span{Low: 5, High: 8}, api.Span{High: 10}, api.Span{Low: 6, High: 10}, true}, {api.Span{Low: 1, High: 2}, api.Span{Low: -1, High: 8}, api.Span{High: 10}, api.Span{High: 10}, true}, {api.Span{Low: 1, High: 2}, api.Span{Low: -2, High: 8}, api.Span{High: 10}, api.Span{High: 10}, false},
		{api.Span{Low: 1, High: 2}, api.Span{Low: 20, High: 30}, api.Span{High: 10}, emptySpan(), false}, {api.Span{Low: 1, High: 2}, api.Span{Low: -20, High: -10}, api.Span{High: 10}, emptySpan(), false}, {api.Span{Low: 3, High: 2}, api.Span{}, api.Span{}, emptySpan(), true}, {api.Span{}, api.Span{Low: 3, High: 2}, api.Span{Low: 5, High: 4}, emptySpan(), true}, {api.Span{Low: 1, High: 2}, api.Span{}, api.Span{Low: 5, High: 4}, emptySpan(), false},
		{api.Span{High: most}, api.Span{Low: 1, High: most}, api.Span{High: 50}, api.Span{Low: 1, High: 50}, false}, {api.Span{Low: most, High: most}, api.Span{Low: 1, High: 1}, api.Span{Low: least, High: most}, emptySpan(), false}, {api.Span{Low: least, High: least}, api.Span{Low: -1, High: -1}, api.Span{Low: least, High: most}, emptySpan(), false}, {api.Span{Low: least}, api.Span{Low: -1}, api.Span{Low: least, High: most}, api.Span{Low: least}, false}, {api.Span{High: most}, api.Span{High: 1}, api.Span{Low: least, High: most}, api.Span{High: most}, false},
		{api.Span{Low: least, High: most}, api.Span{}, api.Span{Low: least, High: most}, api.Span{Low: least, High: most}, true}, {api.Span{Low: least, High: most}, api.Span{Low: least, High: most}, api.Span{Low: least, High: most}, api.Span{Low: least, High: most}, false}, {api.Span{Low: least, High: least}, api.Span{Low: most, High: most}, api.Span{Low: -1, High: -1}, api.Span{Low: -1, High: -1}, true},
		{api.Span{Low: most, High: most}, api.Span{Low: most, High: most}, api.Span{Low: -2, High: -2}, emptySpan(), false}, {api.Span{Low: least, High: least}, api.Span{Low: least, High: least}, api.Span{}, emptySpan(), false}, {api.Span{Low: 3652000, High: 3652058}, api.Span{Low: 0, High: 1}, api.Span{High: api.MaxDay}, api.Span{Low: 3652000, High: api.MaxDay}, false},
	} {
		if r, all := interval.AddSpan(c.a, c.b, c.limits); r != c.want || all != c.all {
			t.Errorf("AddSpan(%v, %v, %v) = %v, %t", c.a, c.b, c.limits, r, all)
		}
	}
}

// inSpan reports whether n is an element of a.
func inSpan(a api.Span, n int) bool { return a.Low <= n && n <= a.High }

// TestSetsOfSmallSpans compares elements one by one.
func TestSetsOfSmallSpans(t *testing.T) {
	l := smallSpans(3)
	for _, a := range l {
		for _, b := range l {
			least, most := math.MaxInt, math.MinInt
			common := interval.MeetSpan(a, b)
			for n := -4; n <= 4; n++ {
				if inSpan(a, n) || inSpan(b, n) {
					least, most = min(least, n), n
				}
				if inSpan(common, n) != (inSpan(a, n) && inSpan(b, n)) {
					t.Fatalf("MeetSpan(%v, %v) = %v", a, b, common)
				}
			}
			want := api.Span{Low: least, High: most}
			if least > most {
				want = emptySpan()
			}
			if join := interval.JoinSpan(a, b); join != want {
				t.Fatalf("JoinSpan(%v, %v) = %v", a, b, join)
			}
			if common.Low > common.High && common != emptySpan() {
				t.Fatalf("MeetSpan(%v, %v) = %v", a, b, common)
			}
		}
	}
}

func TestAddSpanOfSmallSpans(t *testing.T) {
	l := smallSpans(2)
	for _, a := range l {
		for _, b := range l {
			for _, limits := range smallSpans(3) {
				checkSums(t, a, b, limits)
			}
		}
	}
}

func TestSpansOfSamples(t *testing.T) {
	s := &samples{state: 40}
	l := someSpans(200, 41)
	all := 0
	for _, a := range l {
		for _, b := range l {
			low, high := exactInt(max(a.Low, b.Low)), exactInt(min(a.High, b.High))
			if r := interval.MeetSpan(a, b); r != spanOf(low, high) {
				t.Fatalf("MeetSpan(%v, %v) = %v", a, b, r)
			}
			low, high = exactInt(min(a.Low, b.Low)), exactInt(max(a.High, b.High))
			switch {
			case a.Low > a.High:
				low, high = exactInt(b.Low), exactInt(b.High)
			case b.Low > b.High:
				low, high = exactInt(a.Low), exactInt(a.High)
			}
			if r := interval.JoinSpan(a, b); r != spanOf(low, high) {
				t.Fatalf("JoinSpan(%v, %v) = %v", a, b, r)
			}
			for _, limits := range []api.Span{s.span(), {Low: math.MinInt, High: math.MaxInt}, {High: api.MaxDay}, {Low: a.Low + b.Low, High: a.High + b.High}, {Low: a.Low + b.Low + 1, High: a.High + b.High - 1}} {
				if checkSums(t, a, b, limits) {
					all++
				}
			}
		}
	}
	if calls := 5 * len(l) * len(l); all < calls/10 || all > calls*9/10 {
		t.Errorf("for %d of %d calls all sums were elements of the limits", all, calls)
	}
}
