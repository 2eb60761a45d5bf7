package table

import (
	"concord/api"
	"concord/value"
)

// valueOf returns the columns and rows of t as a value, which shares them with t.
func valueOf(t api.Lookup) api.Value {
	return api.Value{Kind: api.Table, Cols: t.Cols, Rows: t.Rows}
}

// copyLookup returns a table that is equal to t, and shares no memory with it.
func copyLookup(t api.Lookup) api.Lookup {
	v := value.Copy(valueOf(t))
	return api.Lookup{Name: t.Name, Cols: v.Cols, Rows: v.Rows}
}

// isName reports whether s is a name: package value only says of tables which names they can have.
func isName(s string) bool {
	return value.Right(api.Value{Kind: api.Table, Cols: []string{s}})
}

// hasOneKindPerColumn reports whether all cells of a column of t that are not of the Kind None have the same Kind. All rows of t have as many cells as there are columns.
func hasOneKindPerColumn(t api.Lookup) bool {
	kinds := make([]int, len(t.Cols))
	for _, row := range t.Rows {
		for place, cell := range row {
			if kinds[place] == api.None {
				kinds[place] = cell.Kind
			}
			if cell.Kind != api.None && cell.Kind != kinds[place] {
				return false
			}
		}
	}
	return true
}
