package table

import (
	"iter"
	"slices"

	"concord/api"
)

// groups has, for each row, the first row that is equal to it in some columns.
type groups []int

// oneGroup returns the groups of so many rows in no column.
func oneGroup(count int) groups {
	return make(groups, count)
}

// groupsInColumn returns the groups of rows in the column at a place.
func groupsInColumn(rows [][]api.Value, place int) groups {
	g := oneGroup(len(rows))
	for row, first := range firsts(len(rows), func(row int) string { return keyOf(rows[row][place]) }) {
		g[row] = first
	}
	return g
}

// split returns the groups in the columns of both g and other.
func (g groups) split(other groups) groups {
	both := oneGroup(len(g))
	for row, first := range g.pairsWith(other) {
		both[row] = first
	}
	return both
}

// pairsWith iterates the rows, each with the first one that is in the same groups of g and of other.
func (g groups) pairsWith(other groups) iter.Seq2[int, int] {
	return firsts(len(g), func(row int) [2]int { return [2]int{g[row], other[row]} })
}

// keepTogether reports whether the two rows of each pair are in the same group of g. It stops at the first pair that is not.
func (g groups) keepTogether(pairs iter.Seq2[int, int]) bool {
	for row, other := range pairs {
		if g[row] != g[other] {
			return false
		}
	}
	return true
}

// firsts iterates the numbers below count, each with the first one that has the same key.
func firsts[K comparable](count int, key func(int) K) iter.Seq2[int, int] {
	return func(yield func(number, first int) bool) {
		known := map[K]int{}
		for number := range count {
			k := key(number)
			first, ok := known[k]
			if !ok {
				first = number
				known[k] = first
			}
			if !yield(number, first) {
				return
			}
		}
	}
}

// minimalKeys returns the indices of the columns of each minimal key of rows with so many columns, the smaller keys first.
func minimalKeys(rows [][]api.Value, count int) [][]int {
	columns, whole := make([]groups, count), oneGroup(len(rows))
	for place := range columns {
		columns[place] = groupsInColumn(rows, place)
		whole = whole.split(columns[place])
	}
	if whole.keepTogether(slices.All(oneGroup(len(rows)))) {
		return [][]int{nil}
	}
	var keys [][]int
	var others []int
	for place, column := range columns {
		if whole.keepTogether(slices.All(column)) {
			keys = append(keys, []int{place})
		} else {
			others = append(others, place)
		}
	}
	return slices.Concat(keys, keysOfTwo(columns, others, whole))
}

// keysOfTwo returns the pairs of some columns in which only whole rows that are equal are equal.
func keysOfTwo(columns []groups, places []int, whole groups) [][]int {
	var keys [][]int
	for i, first := range places {
		for _, second := range places[i+1:] {
			if whole.keepTogether(columns[first].pairsWith(columns[second])) {
				keys = append(keys, []int{first, second})
			}
		}
	}
	return keys
}
