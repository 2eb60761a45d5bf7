package oper

import (
	"strings"

	"concord/api"
	"concord/decimal"
	"concord/pattern"
)

// operatorsOfTexts returns the operators that join texts, take parts of them, or measure them, and those between texts and numbers.
func operatorsOfTexts() map[string]operator {
	return map[string]operator{
		"concat":  {form: (*parameter).nothing, takes: kinds{api.Text, api.Text}, gives: api.Text, value: concat},
		"upper":   {form: (*parameter).nothing, takes: kinds{api.Text}, gives: api.Text, value: upper},
		"lower":   {form: (*parameter).nothing, takes: kinds{api.Text}, gives: api.Text, value: lower},
		"trim":    {form: (*parameter).nothing, takes: kinds{api.Text}, gives: api.Text, value: trim},
		"extract": {form: (*parameter).patternAndNumber, takes: kinds{api.Text}, gives: api.Text, value: extract},
		"length":  {form: (*parameter).nothing, takes: kinds{api.Text}, gives: api.Number, value: length},
		"parse":   {form: (*parameter).nothing, takes: kinds{api.Text}, gives: api.Number, value: parse},
		"print":   {form: (*parameter).nothing, takes: kinds{api.Number}, gives: api.Text, value: printed},
	}
}

func concat(c *call) (api.Value, api.Errno) {
	s := c.args[0].S + c.args[1].S
	return orError(text(s), len(s) <= api.MaxText, api.ErrRange)
}

func upper(c *call) (api.Value, api.Errno) {
	return text(strings.ToUpper(c.args[0].S)), api.OK
}

func lower(c *call) (api.Value, api.Errno) {
	return text(strings.ToLower(c.args[0].S)), api.OK
}

func trim(c *call) (api.Value, api.Errno) {
	return text(strings.Trim(c.args[0].S, " ")), api.OK
}

func extract(c *call) (api.Value, api.Errno) {
	from, to, ok := pattern.Find(c.pieces, c.args[0].S, c.number)
	return orError(text(c.args[0].S[from:to]), ok, api.ErrMiss)
}

func length(c *call) (api.Value, api.Errno) {
	return count(len(c.args[0].S))
}

func parse(c *call) (api.Value, api.Errno) {
	d, ok := decimal.Parse(c.args[0].S)
	return orError(number(d), ok, api.ErrForm)
}

func printed(c *call) (api.Value, api.Errno) {
	return text(decimal.Text(c.args[0].D)), api.OK
}
