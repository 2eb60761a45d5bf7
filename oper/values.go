package oper

import "concord/api"

func text(s string) api.Value {
	return api.Value{Kind: api.Text, S: s}
}

func number(d api.Dec) api.Value {
	return api.Value{Kind: api.Number, D: d}
}

func day(n int) api.Value {
	return api.Value{Kind: api.Date, N: n}
}

func truth(holds bool) api.Value {
	if holds {
		return api.Value{Kind: api.Bool, N: 1}
	}
	return api.Value{Kind: api.Bool}
}

// orError returns v and OK, if ok is true; otherwise e.
func orError(v api.Value, ok bool, e api.Errno) (api.Value, api.Errno) {
	if !ok {
		return api.Value{}, e
	}
	return v, api.OK
}
