package table

import (
	"iter"
	"slices"

	"concord/api"
	"concord/value"
)

// isTable reports whether v is a right table.
func isTable(v api.Value) bool {
	return v.Kind == api.Table && value.Right(v)
}

// columnOf returns the index of a column of a right table; ErrType or ErrName, if there is none.
func columnOf(t api.Value, col string) (int, api.Errno) {
	if !isTable(t) {
		return 0, api.ErrType
	}
	place := slices.Index(t.Cols, col)
	if place < 0 {
		return 0, api.ErrName
	}
	return place, api.OK
}

// is reports whether a cell is v. An empty cell is nothing.
func is(cell, v api.Value) bool {
	return cell.Kind != api.None && value.Equal(cell, v)
}

// matches iterates the pairs of a row of a and a row of b whose cells at two places are the same value, in the order of a, those with the same row of a in the order of b.
func matches(a [][]api.Value, placeA int, b [][]api.Value, placeB int) iter.Seq2[[]api.Value, []api.Value] {
	return func(yield func(x, y []api.Value) bool) {
		ofB := rowsByCell(b, placeB)
		for _, x := range a {
			for _, y := range ofB[keyOf(x[placeA])] {
				if !yield(x, y) {
					return
				}
			}
		}
	}
}

// rowsByCell returns the rows by the key of their cell at a place, without those in which it is of the Kind None, as these match no row.
func rowsByCell(rows [][]api.Value, place int) map[string][][]api.Value {
	byCell := map[string][][]api.Value{}
	for _, row := range rows {
		if row[place].Kind != api.None {
			key := keyOf(row[place])
			byCell[key] = append(byCell[key], row)
		}
	}
	return byCell
}

// haveLength reports whether each row has so many cells.
func haveLength(rows [][]api.Value, length int) bool {
	return !slices.ContainsFunc(rows, func(row []api.Value) bool { return len(row) != length })
}

// differ reports whether a row of a has another cell at a place than the same row of b.
func differ(a, b [][]api.Value, place int) bool {
	for i := range a {
		if !value.Equal(cellAt(a[i], place), cellAt(b[i], place)) {
			return true
		}
	}
	return false
}

// cellAt returns the cell of a row at a place; an empty one, if it is missing.
func cellAt(row []api.Value, place int) api.Value {
	if place >= len(row) {
		return api.Value{}
	}
	return row[place]
}
