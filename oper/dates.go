package oper

import (
	"concord/api"
	"concord/date"
)

// operatorsOfDates returns the operators that read, show and compute with dates.
func operatorsOfDates() map[string]operator {
	return map[string]operator{
		"read":    {form: (*parameter).aLayout, takes: kinds{api.Text}, gives: api.Date, value: read},
		"show":    {form: (*parameter).aLayout, takes: kinds{api.Date}, gives: api.Text, value: show},
		"days":    {form: (*parameter).nothing, takes: kinds{api.Date, api.Number}, gives: api.Date, value: days},
		"between": {form: (*parameter).nothing, takes: kinds{api.Date, api.Date}, gives: api.Number, value: between},
	}
}

func read(c *call) (api.Value, api.Errno) {
	n, ok := date.Read(c.layout, c.args[0].S)
	return orError(day(n), ok, api.ErrForm)
}

func show(c *call) (api.Value, api.Errno) {
	s, _ := date.Format(c.layout, c.args[0].N)
	return text(s), api.OK
}

// days returns the date that is so many days later. A right decimal is whole exactly if its Scale is 0.
func days(c *call) (api.Value, api.Errno) {
	if c.args[1].D.Scale != 0 {
		return api.Value{}, api.ErrValue
	}
	n, ok := date.Add(c.args[0].N, c.args[1].D.N)
	return orError(day(n), ok, api.ErrRange)
}

func between(c *call) (api.Value, api.Errno) {
	return count(c.args[1].N - c.args[0].N)
}
