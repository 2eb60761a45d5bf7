package oper

import (
	"iter"
	"slices"

	"concord/api"
	"concord/table"
	"concord/value"
)

// call is an operator with what it is applied to.
type call struct {
	operator
	parameter
	op     string
	args   []api.Value
	base   []api.Lookup
	cols   []api.Column
	row    []api.Value
	column int        // the place of the column that the parameter names
	table  api.Lookup // the table that the parameter names
}

// newCall returns an operator with its parameter, for which all that it names has been found; the error of Types, if there is one.
func newCall(op, param string, base []api.Lookup, cols []api.Column) (*call, api.Errno) {
	o, ok := operatorNamed(op)
	if !ok {
		return nil, api.ErrName
	}
	c := &call{operator: o, op: op, base: base, cols: cols}
	if !c.form(&c.parameter, param) {
		return nil, api.ErrForm
	}
	if c.find == nil {
		return c, api.OK
	}
	return c, c.find(c)
}

// findColumn finds the first column with the name, whose kind is that of the parameter.
func (c *call) findColumn() api.Errno {
	c.column = slices.IndexFunc(c.cols, func(col api.Column) bool { return col.Name == c.names[0] })
	if c.column < 0 {
		return api.ErrName
	}
	c.kind = c.cols[c.column].Kind
	return api.OK
}

// findTable finds the first right table with the first name.
func (c *call) findTable() api.Errno {
	place := slices.IndexFunc(c.base, func(t api.Lookup) bool { return t.Name == c.names[0] && table.Right(t) })
	if place < 0 {
		return api.ErrName
	}
	c.table = c.base[place]
	return api.OK
}

// findColumnsOfTable finds the table with the first name, and looks whether it has the columns with the two others, and whether all cells of the last one are empty or of the kind.
func (c *call) findColumnsOfTable() api.Errno {
	if e := c.findTable(); e != api.OK {
		return e
	}
	place := slices.Index(c.table.Cols, c.names[2])
	if place < 0 || !slices.Contains(c.table.Cols, c.names[1]) {
		return api.ErrName
	}
	for _, row := range c.table.Rows {
		if kind := row[place].Kind; kind != api.None && kind != c.kind {
			return api.ErrType
		}
	}
	return api.OK
}

// kindOf returns a kind of the operator, or that of the parameter, if it stands for this.
func (c *call) kindOf(kind int) int {
	if kind == ofParameter {
		return c.kind
	}
	return kind
}

// kindsOfArguments returns the kinds of all arguments.
func (c *call) kindsOfArguments() []int {
	var all []int
	for _, kind := range c.takes[:c.takes.count()] {
		all = append(all, c.kindOf(kind))
	}
	return all
}

// checkArguments returns the error of the first argument that counts and has one; ErrType, if there are more or fewer arguments than kinds.
func (c *call) checkArguments() api.Errno {
	if len(c.args) != c.takes.count() {
		return api.ErrType
	}
	for v, kind := range c.argumentsThatCount() {
		if e := fault(v, c.kindOf(kind)); e != api.OK {
			return e
		}
	}
	return api.OK
}

// argumentsThatCount iterates the arguments that count, each with its kind. The first argument says which of the others count, so that these are only looked for when it has been checked.
func (c *call) argumentsThatCount() iter.Seq2[api.Value, int] {
	return func(yield func(v api.Value, kind int) bool) {
		for place, v := range c.args {
			if place > 0 && Lazy(c.op) && place != taken(c.args[0]) {
				continue
			}
			if !yield(v, c.takes[place]) {
				return
			}
		}
	}
}

// fault returns the error that an argument of a kind has.
func fault(v api.Value, kind int) api.Errno {
	switch {
	case v.Kind == api.None:
		return value.Error(v)
	case v.Kind != kind || !value.Right(v):
		return api.ErrType
	}
	return api.OK
}
