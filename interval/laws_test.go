package interval_test

import (
	"testing"

	"concord/api"
	"concord/decimal"
	"concord/interval"
)

// P7.8: the consequences, without another implementation beside the package.

// numbersOf returns elements of a range: its bounds, and right decimals next to them and between them.
func (s *samples) numbersOf(r api.Range) []api.Dec {
	var l []api.Dec
	for _, a := range []api.Dec{r.Low, r.High, {}, {N: r.Low.N + s.below(100), Scale: r.Low.Scale}, {N: r.High.N - s.below(100), Scale: r.High.Scale}, {N: r.Low.N/2 + r.High.N/2, Scale: r.Low.Scale}, s.right()} {
		if interval.Contains(r, a) {
			l = append(l, a)
		}
	}
	return l
}

// near returns a range of small bounds more often than not, so that sums and products of them fit.
func (s *samples) near() api.Range {
	if s.below(3) == 0 {
		return s.numbers()
	}
	r := api.Range{Low: api.Dec{N: s.below(4001) - 2000, Scale: s.below(4)}, High: api.Dec{N: s.below(4001) - 2000, Scale: s.below(4)}}
	if s.below(4) == 0 {
		r.High = r.Low
	}
	return r
}

// lawOf is an operation on decimals, and on ranges.
type lawOf struct {
	name     string
	decimals func(a, b api.Dec) (api.Dec, bool)
	ranges   func(a, b api.Range) (api.Range, bool)
}

func laws() []lawOf {
	return []lawOf{{"Add", decimal.Add, interval.Add}, {"Sub", decimal.Sub, interval.Sub}, {"Mul", decimal.Mul, interval.Mul}}
}

func TestResultsOfElementsAreElements(t *testing.T) {
	s := &samples{state: 50}
	for _, law := range laws() {
		fitting, sure := 0, 0
		for range 10000 {
			a, b := s.near(), s.near()
			r, all := law.ranges(a, b)
			for _, x := range s.numbersOf(a) {
				for _, y := range s.numbersOf(b) {
					c, ok := law.decimals(x, y)
					if ok && !interval.Contains(r, c) || all && !ok {
						t.Fatalf("%s(%v, %v) = %v, %t, but %v and %v give %v, %t", law.name, a, b, r, all, x, y, c, ok)
					}
					if ok {
						fitting++
					}
					if all {
						sure++
					}
				}
			}
		}
		if fitting < 10000 || sure < 500 {
			t.Errorf("%s: %d results of elements, %d of them sure", law.name, fitting, sure)
		}
	}
}

func TestRoundedElementsAreElements(t *testing.T) {
	s := &samples{state: 51}
	compared := 0
	for range 10000 {
		a, scale := s.near(), s.below(9)-1
		r, ok := interval.Round(a, scale)
		for _, x := range s.numbersOf(a) {
			c, fits := decimal.Round(x, scale)
			if fits != ok || fits && !interval.Contains(r, c) {
				t.Fatalf("Round(%v, %d) = %v, %t, but that of %v is %v, %t", a, scale, r, ok, x, c, fits)
			}
			compared++
		}
	}
	if compared < 10000 {
		t.Errorf("%d elements were rounded", compared)
	}
}

func TestLawsOfJoinAndMeet(t *testing.T) {
	s := &samples{state: 52}
	for _, call := range []func(a, b api.Range) api.Range{interval.Join, interval.Meet} {
		for range 10000 {
			a, b, c := s.near(), s.near(), s.near()
			once := call(a, a)
			if call(a, b) != call(b, a) || call(call(a, b), c) != call(a, call(b, c)) || call(once, a) != once || call(once, once) != once || !interval.Within(a, once) || !interval.Within(once, a) {
				t.Fatalf("%v, %v, %v", a, b, c)
			}
		}
	}
}

func TestLawsOfJoinSpanAndMeetSpan(t *testing.T) {
	s := &samples{state: 53}
	for _, call := range []func(a, b api.Span) api.Span{interval.JoinSpan, interval.MeetSpan} {
		for range 10000 {
			a, b, c := s.span(), s.span(), s.span()
			once := call(a, a)
			if call(a, b) != call(b, a) || call(call(a, b), c) != call(a, call(b, c)) || call(once, once) != once || a.Low <= a.High && once != a {
				t.Fatalf("%v, %v, %v", a, b, c)
			}
			join, meet := interval.JoinSpan(a, b), interval.MeetSpan(a, b)
			if a.Low <= a.High && interval.MeetSpan(a, join) != a || meet != interval.MeetSpan(meet, a) {
				t.Fatalf("%v and %v: %v, %v", a, b, join, meet)
			}
		}
	}
}

func TestJoinContainsAndMeetIsWithin(t *testing.T) {
	s := &samples{state: 54}
	for range 20000 {
		a, b := s.near(), s.near()
		join, meet := interval.Join(a, b), interval.Meet(a, b)
		if !interval.Within(a, join) || !interval.Within(b, join) || !interval.Within(meet, a) || !interval.Within(meet, b) || !interval.Within(meet, join) {
			t.Fatalf("%v and %v: %v, %v", a, b, join, meet)
		}
		if interval.Within(a, b) != (join == interval.Join(b, b)) || interval.Within(a, b) != (meet == interval.Meet(a, a)) {
			t.Fatalf("%v within %v is %t: %v, %v", a, b, interval.Within(a, b), join, meet)
		}
		for _, x := range append(s.numbersOf(a), s.numbersOf(b)...) {
			inA, inB := interval.Contains(a, x), interval.Contains(b, x)
			if !interval.Contains(join, x) || interval.Contains(meet, x) != (inA && inB) {
				t.Fatalf("%v and %v: %v", a, b, x)
			}
		}
	}
}

// within returns a range within a; for many that have elements, one of two of them.
func (s *samples) within(a api.Range) api.Range {
	l := s.numbersOf(a)
	if len(l) == 0 || s.below(4) == 0 {
		return interval.Meet(a, s.near())
	}
	x, y := element(s, l), element(s, l)
	return interval.Join(api.Range{Low: x, High: x}, api.Range{Low: y, High: y})
}

func TestAllOperationsKeepWithin(t *testing.T) {
	s := &samples{state: 55}
	nonempty := 0
	for range 20000 {
		a, b, scale := s.near(), s.near(), s.below(7)
		x, y := s.within(a), s.within(b)
		if !interval.Empty(x) && !interval.Empty(y) {
			nonempty++
		}
		for _, law := range laws() {
			r, _ := law.ranges(x, y)
			whole, _ := law.ranges(a, b)
			if !interval.Within(r, whole) {
				t.Fatalf("%s of %v, %v is %v, and of %v, %v %v", law.name, x, y, r, a, b, whole)
			}
		}
		r, _ := interval.Round(x, scale)
		whole, _ := interval.Round(a, scale)
		if !interval.Within(r, whole) || !interval.Within(interval.Join(x, y), interval.Join(a, b)) || !interval.Within(interval.Meet(x, y), interval.Meet(a, b)) {
			t.Fatalf("%v, %v within %v, %v", x, y, a, b)
		}
		can, must := interval.Less(x, y)
		wholeCan, wholeMust := interval.Less(a, b)
		if can && !wholeCan || wholeMust && !must {
			t.Fatalf("Less of %v, %v within %v, %v", x, y, a, b)
		}
	}
	if nonempty < 5000 {
		t.Errorf("%d pairs have elements", nonempty)
	}
}

// TestAddSpanKeepsSpans has parts of spans, whose sums are parts of the sums.
func TestAddSpanKeepsSpans(t *testing.T) {
	s := &samples{state: 56}
	for range 20000 {
		a, b, limits := s.span(), s.span(), s.span()
		x, y := interval.MeetSpan(a, s.span()), interval.MeetSpan(b, s.span())
		r, all := interval.AddSpan(x, y, limits)
		whole, wholeAll := interval.AddSpan(a, b, limits)
		if interval.MeetSpan(r, whole) != r || interval.MeetSpan(r, limits) != r || wholeAll && !all {
			t.Fatalf("AddSpan of %v, %v is %v, %t, and of %v, %v %v, %t", x, y, r, all, a, b, whole, wholeAll)
		}
		if other, otherAll := interval.AddSpan(b, a, limits); other != whole || otherAll != wholeAll {
			t.Fatalf("AddSpan of %v, %v is %v, and the other way round %v", a, b, whole, other)
		}
	}
}
