package oper

import (
	"concord/api"
	"concord/decimal"
)

// operatorsOfNumbers returns the operators that compute with numbers.
func operatorsOfNumbers() map[string]operator {
	return map[string]operator{
		"add":   {form: (*parameter).nothing, takes: kinds{api.Number, api.Number}, gives: api.Number, value: add},
		"sub":   {form: (*parameter).nothing, takes: kinds{api.Number, api.Number}, gives: api.Number, value: sub},
		"mul":   {form: (*parameter).nothing, takes: kinds{api.Number, api.Number}, gives: api.Number, value: mul},
		"round": {form: (*parameter).aScale, takes: kinds{api.Number}, gives: api.Number, value: round},
	}
}

func add(c *call) (api.Value, api.Errno) {
	return inRange(decimal.Add(c.args[0].D, c.args[1].D))
}

func sub(c *call) (api.Value, api.Errno) {
	return inRange(decimal.Sub(c.args[0].D, c.args[1].D))
}

func mul(c *call) (api.Value, api.Errno) {
	return inRange(decimal.Mul(c.args[0].D, c.args[1].D))
}

func round(c *call) (api.Value, api.Errno) {
	return inRange(decimal.Round(c.args[0].D, c.number))
}

// count returns an int as a number.
func count(n int) (api.Value, api.Errno) {
	return inRange(decimal.Of(n))
}

// inRange returns a decimal as a number; ErrRange, if it does not fit.
func inRange(d api.Dec, fits bool) (api.Value, api.Errno) {
	return orError(number(d), fits, api.ErrRange)
}
