package shape

import "iter"

// fromFirst iterates pairs of a byte of a and one of b, from the first ones on.
func fromFirst(a, b string) iter.Seq2[byte, byte] {
	return func(yield func(byte, byte) bool) {
		for i := range min(len(a), len(b)) {
			if !yield(a[i], b[i]) {
				return
			}
		}
	}
}

// fromLast iterates pairs of a byte of a and one of b, from the last ones back.
func fromLast(a, b string) iter.Seq2[byte, byte] {
	return func(yield func(byte, byte) bool) {
		for i := range min(len(a), len(b)) {
			if !yield(a[len(a)-1-i], b[len(b)-1-i]) {
				return
			}
		}
	}
}

// equalPairs counts the pairs in front of the first one of two different bytes.
func equalPairs(pairs iter.Seq2[byte, byte]) int {
	count := 0
	for x, y := range pairs {
		if x != y {
			break
		}
		count++
	}
	return count
}

// commonBegin returns the longest string with which both a and b begin.
func commonBegin(a, b string) string {
	return a[:equalPairs(fromFirst(a, b))]
}

// commonEnd returns the longest string with which both a and b end.
func commonEnd(a, b string) string {
	return a[len(a)-equalPairs(fromLast(a, b)):]
}

// longer returns the longer one of two Begins or Ends, and whether texts that have it have the other one too.
func longer(a, b string, has func(s, part string) bool) (string, bool) {
	if len(a) < len(b) {
		a, b = b, a
	}
	return a, has(a, b)
}
