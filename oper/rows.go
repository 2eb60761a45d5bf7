package oper

import (
	"concord/api"
	"concord/value"
)

// operatorsOfRows returns the operators without arguments that give a cell or a constant.
func operatorsOfRows() map[string]operator {
	return map[string]operator{
		"col":    {form: (*parameter).aName, find: (*call).findColumn, gives: ofParameter, value: cell},
		"text":   {form: (*parameter).aText, gives: api.Text, value: constant},
		"number": {form: (*parameter).aNumber, gives: api.Number, value: constant},
		"date":   {form: (*parameter).aDate, gives: api.Date, value: constant},
		"bool":   {form: (*parameter).aBool, gives: api.Bool, value: constant},
	}
}

// cell returns the cell of the row in the column.
func cell(c *call) (api.Value, api.Errno) {
	if !value.Fits(c.cols, c.row) {
		return api.Value{}, api.ErrArg
	}
	return present(c.row[c.column])
}

// present returns a copy of v, or its error, if it is of the Kind None.
func present(v api.Value) (api.Value, api.Errno) {
	return orError(value.Copy(v), v.Kind != api.None, value.Error(v))
}

func constant(c *call) (api.Value, api.Errno) {
	return c.constant, api.OK
}
