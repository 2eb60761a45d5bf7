package oper

import (
	"concord/api"
	"concord/decimal"
	"concord/pattern"
	"concord/value"
)

// operatorsOfTruths returns the operators that compare values, and those that compute with bools.
func operatorsOfTruths() map[string]operator {
	return map[string]operator{
		"equal":  {form: (*parameter).kindToCompare, takes: kinds{ofParameter, ofParameter}, gives: api.Bool, value: equal},
		"before": {form: (*parameter).nothing, takes: kinds{api.Date, api.Date}, gives: api.Bool, value: before},
		"less":   {form: (*parameter).nothing, takes: kinds{api.Number, api.Number}, gives: api.Bool, value: less},
		"match":  {form: (*parameter).aPattern, takes: kinds{api.Text}, gives: api.Bool, value: match},
		"not":    {form: (*parameter).nothing, takes: kinds{api.Bool}, gives: api.Bool, value: not},
		"and":    {form: (*parameter).nothing, takes: kinds{api.Bool, api.Bool}, gives: api.Bool, value: and},
		"if":     {form: (*parameter).kindOfValue, takes: kinds{api.Bool, ofParameter, ofParameter}, gives: ofParameter, value: choice},
	}
}

func equal(c *call) (api.Value, api.Errno) {
	return truth(value.Equal(c.args[0], c.args[1])), api.OK
}

func before(c *call) (api.Value, api.Errno) {
	return truth(c.args[0].N < c.args[1].N), api.OK
}

func less(c *call) (api.Value, api.Errno) {
	return truth(decimal.Cmp(c.args[0].D, c.args[1].D) < 0), api.OK
}

func match(c *call) (api.Value, api.Errno) {
	return truth(pattern.Matches(c.pieces, c.args[0].S)), api.OK
}

func not(c *call) (api.Value, api.Errno) {
	return truth(!isTrue(c.args[0])), api.OK
}

func and(c *call) (api.Value, api.Errno) {
	return truth(isTrue(c.args[0]) && isTrue(c.args[1])), api.OK
}

// choice returns the argument that is taken.
func choice(c *call) (api.Value, api.Errno) {
	return value.Copy(c.args[taken(c.args[0])]), api.OK
}

// isTrue reports whether a right bool is true.
func isTrue(v api.Value) bool {
	return v.N == 1
}

// taken returns the place of the argument that if takes.
func taken(condition api.Value) int {
	if isTrue(condition) {
		return 1
	}
	return 2
}
