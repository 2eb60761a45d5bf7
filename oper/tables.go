package oper

import (
	"slices"

	"concord/api"
	"concord/table"
	"concord/value"
)

// operatorsOfTables returns the operators on tables, those of the base and those that are values.
func operatorsOfTables() map[string]operator {
	return map[string]operator{
		"lookup": {form: (*parameter).columnsOfTable, find: (*call).findColumnsOfTable, takes: kinds{api.Text}, gives: ofParameter, value: lookUp},
		"table":  {form: (*parameter).aName, find: (*call).findTable, gives: api.Table, value: wholeTable},
		"where":  {form: (*parameter).aName, takes: kinds{api.Table, api.Text}, gives: api.Table, value: where},
		"join":   {form: (*parameter).aName, takes: kinds{api.Table, api.Table}, gives: api.Table, value: join},
		"pick":   {form: (*parameter).differentNames, takes: kinds{api.Table}, gives: api.Table, value: pick},
		"sum":    {form: (*parameter).columnAndLeast, takes: kinds{api.Table}, gives: api.Number, value: sum},
		"count":  {form: (*parameter).nothing, takes: kinds{api.Table}, gives: api.Number, value: countRows},
		"first":  {form: (*parameter).columnAndKind, takes: kinds{api.Table}, gives: ofParameter, value: first},
	}
}

func lookUp(c *call) (api.Value, api.Errno) {
	return table.Find(c.table, c.names[1], c.args[0], c.names[2])
}

// wholeTable returns the table of the base as a value.
func wholeTable(c *call) (api.Value, api.Errno) {
	return value.Copy(api.Value{Kind: api.Table, Cols: c.table.Cols, Rows: c.table.Rows}), api.OK
}

func where(c *call) (api.Value, api.Errno) {
	return table.Where(c.args[0], c.names[0], c.args[1])
}

func join(c *call) (api.Value, api.Errno) {
	return table.Join(c.args[0], c.args[1], c.names[0])
}

func pick(c *call) (api.Value, api.Errno) {
	return table.Pick(c.args[0], c.names)
}

func sum(c *call) (api.Value, api.Errno) {
	return table.Sum(c.args[0], c.names[0], c.constant.D)
}

func countRows(c *call) (api.Value, api.Errno) {
	return count(len(c.args[0].Rows))
}

// first returns the cell of the first row in the column.
func first(c *call) (api.Value, api.Errno) {
	place := slices.Index(c.args[0].Cols, c.names[0])
	if place < 0 {
		return api.Value{}, api.ErrName
	}
	if len(c.args[0].Rows) == 0 {
		return api.Value{}, api.ErrMiss
	}
	v := c.args[0].Rows[0][place]
	switch v.Kind {
	case c.kind:
		return value.Copy(v), api.OK
	case api.None:
		return api.Value{}, api.ErrMiss
	}
	return api.Value{}, api.ErrType
}
