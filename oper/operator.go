package oper

import (
	"slices"

	"concord/api"
)

// ofParameter stands for the kind that is found with the parameter, as kinds of arguments and results are ints that can be no such kind.
const ofParameter = -1

// kinds are the kinds of the arguments of an operator; None follows the last one.
type kinds [3]int

// count returns how many arguments there are.
func (k kinds) count() int {
	if end := slices.Index(k[:], api.None); end >= 0 {
		return end
	}
	return len(k)
}

// operator is what the document's table says of an operator.
type operator struct {
	form  func(p *parameter, s string) bool // reads the parameter
	find  func(c *call) api.Errno           // finds what the parameter names; nil, if it names nothing that has to be there
	takes kinds
	gives int
	value func(c *call) (api.Value, api.Errno)
}

// The families of operators.
const (
	ofRows = iota
	ofTexts
	ofNumbers
	ofDates
	ofTruths
	ofTables
)

// families are the operators in the order of the document. Each family has a map of its own, so that a call builds a small one.
var families = [...][]string{
	ofRows:    {"col", "text", "number", "date", "bool"},
	ofTexts:   {"concat", "upper", "lower", "trim", "extract", "length", "parse", "print"},
	ofNumbers: {"add", "sub", "mul", "round"},
	ofDates:   {"read", "show", "days", "between"},
	ofTruths:  {"equal", "before", "less", "match", "not", "and", "if"},
	ofTables:  {"lookup", "table", "where", "join", "pick", "sum", "count", "first"},
}

// operatorNamed returns the operator with a name, and true; false, if there is none.
func operatorNamed(op string) (operator, bool) {
	for family, names := range families {
		if slices.Contains(names, op) {
			return operatorsOf(family)[op], true
		}
	}
	return operator{}, false
}

// operatorsOf returns the operators of a family by name.
func operatorsOf(family int) map[string]operator {
	switch family {
	case ofRows:
		return operatorsOfRows()
	case ofTexts:
		return operatorsOfTexts()
	case ofNumbers:
		return operatorsOfNumbers()
	case ofDates:
		return operatorsOfDates()
	case ofTruths:
		return operatorsOfTruths()
	}
	return operatorsOfTables()
}
