package oper_test

import (
	"math/big"
	"regexp"
	"slices"
	"strconv"
	"strings"
	"time"

	"concord/api"
	"concord/date"
	"concord/pattern"
	"concord/table"
	"concord/value"
)

// The reference: what Types and Apply return by the words of the document, put together from the packages of the layers below, with forms from regular expressions and arithmetic of math/big.

// operators returns the operators in the order of the document.
func operators() []string {
	return strings.Fields("col text number date bool concat upper lower trim extract length parse print add sub mul round read show days between equal before less match not and if lookup table where join pick sum count first")
}

// signature returns the kinds of the arguments of an operator, and that of its result, as the document's table has them: X for the kind that the parameter names, C for that of the column.
func signature(op string) (arguments []string, result string) {
	for _, line := range []string{
		"col > C", "text > T", "number > N", "date > D", "bool > B", "concat T T > T", "upper T > T", "lower T > T", "trim T > T", "extract T > T", "length T > N", "parse T > N", "print N > T", "add N N > N", "sub N N > N", "mul N N > N", "round N > N",
		"read T > D", "show D > T", "days D N > D", "between D D > N", "equal X X > B", "before D D > B", "less N N > B", "match T > B", "not B > B", "and B B > B", "if B X X > X",
		"lookup T > X", "table > Tab", "where Tab T > Tab", "join Tab Tab > Tab", "pick Tab > Tab", "sum Tab > N", "count Tab > N", "first Tab > X",
	} {
		words := strings.Fields(line)
		if words[0] == op {
			return words[1 : len(words)-2], words[len(words)-1]
		}
	}
	return nil, ""
}

const (
	nameForm    = `[a-zA-Z][a-zA-Z0-9_]{0,19}`
	decimalForm = `-?(?:0|[1-9][0-9]*)(?:\.[0-9]{0,5}[1-9])?`
	kindForm    = `(?:text|number|date|bool|table)`
	cellForm    = `(?:text|number|date|bool)`
)

// compiled are the regular expressions that were used before, by form.
var compiled = map[string]*regexp.Regexp{}

// has reports whether a whole string has the form of a regular expression.
func has(form, s string) bool {
	if compiled[form] == nil {
		compiled[form] = regexp.MustCompile(`\A(?:` + form + `)\z`)
	}
	return compiled[form].MatchString(s)
}

// isDecimal reports whether s is the text of a decimal.
func isDecimal(s string) bool {
	if !has(decimalForm, s) || s == "-0" {
		return false
	}
	units, _ := new(big.Int).SetString(strings.Replace(s, ".", "", 1), 10)
	return units.CmpAbs(big.NewInt(1e15)) <= 0
}

// isDate reports whether s is the text of a date.
func isDate(s string) bool {
	_, err := time.Parse("2006-01-02", s)
	return err == nil && has(`[0-9]{4}-[0-9]{2}-[0-9]{2}`, s) && s >= "0001"
}

// isPattern reports whether s is the written form of a right pattern.
func isPattern(s string) bool {
	if len(s) > 60 || !has(`(?:[ -)\x2c-\[\]-z|~]|\\[\\{}+*]|\\[dulaso.](?:[+*]|\{[0-9]+(?:,[0-9]+)?\})?)*`, s) {
		return false
	}
	for _, m := range regexp.MustCompile(`(?:\\.|[^\\{])(?:\{([0-9]+)(?:,([0-9]+))?\})?`).FindAllStringSubmatch(s, -1) {
		if m[1] == "" {
			continue
		}
		least, _ := strconv.Atoi(m[1])
		most, _ := strconv.Atoi(m[2])
		if m[2] == "" && (least < 2 || least > 200) || m[2] != "" && (least >= most || most > 200 || least < 2 && most == 200) || !has(`0|[1-9][0-9]*`, m[1]) || !has(`|[1-9][0-9]*`, m[2]) {
			return false
		}
	}
	return true
}

// isLayout reports whether s is a right layout.
func isLayout(s string) bool {
	_, ok := date.Format(s, 3652058)
	return ok
}

// lastCut cuts s at the last separator.
func lastCut(s, separator string) (before, after string) {
	at := strings.LastIndex(s, separator)
	if at < 0 {
		return "", ""
	}
	return s[:at], s[at+len(separator):]
}

// hasForm reports whether param has the form of an operator.
func hasForm(op, param string) bool {
	before, after := lastCut(param, "#")
	switch op {
	case "col", "table", "where", "join":
		return has(nameForm, param)
	case "text":
		return has(`[ -~]{0,200}`, param)
	case "number":
		return isDecimal(param)
	case "date":
		return isDate(param)
	case "bool":
		return param == "0" || param == "1"
	case "extract":
		return strings.Contains(param, "#") && isPattern(before) && has(`[1-9]|1[0-9]|20`, after)
	case "round":
		return has(`[0-6]`, param)
	case "read", "show":
		return isLayout(param)
	case "equal":
		return has(`text|number|date`, param)
	case "match":
		return isPattern(param)
	case "if":
		return has(kindForm, param)
	case "lookup":
		return has(nameForm+`\.`+nameForm+`\.`+nameForm+`:`+cellForm, param)
	case "pick":
		l := strings.Split(param, ",")
		slices.Sort(l)
		return has(nameForm+`(?:,`+nameForm+`){0,7}`, param) && len(slices.Compact(l)) == strings.Count(param, ",")+1
	case "sum":
		column, least, _ := strings.Cut(param, ">=")
		return has(nameForm, column) && isDecimal(least)
	case "first":
		return has(nameForm+`:`+cellForm, param)
	}
	return param == ""
}

// kindOf returns the kind of a letter of the document, or of a name.
func kindOf(word string) int {
	kind := slices.Index(names("", "T", "N", "D", "B", "Tab"), word)
	if kind < 0 {
		kind = slices.Index(names("", "text", "number", "date", "bool", "table"), word)
	}
	return kind
}

// tableNamed returns the first right table with a name, and whether there is one.
func tableNamed(base []api.Lookup, name string) (api.Lookup, bool) {
	for _, t := range base {
		if t.Name == name && table.Right(t) {
			return t, true
		}
	}
	return api.Lookup{}, false
}

// readsOf returns the table that an operator reads, and its columns.
func readsOf(op, param string) (name, key, col string) {
	if !hasForm(op, param) || op != "lookup" && op != "table" {
		return "", "", ""
	}
	l := append(strings.Split(strings.Split(param, ":")[0], "."), "", "")
	return l[0], l[1], l[2]
}

// wantedTypes returns what Types returns.
func wantedTypes(op, param string, base []api.Lookup, cols []api.Column) ([]int, int, api.Errno) {
	arguments, result := signature(op)
	if result == "" {
		return nil, 0, 13
	}
	if !hasForm(op, param) {
		return nil, 0, 11
	}
	_, last := lastCut(":"+param, ":")
	kindOfX := kindOf(last)
	if name, key, col := readsOf(op, param); name != "" {
		t, ok := tableNamed(base, name)
		if !ok || op == "lookup" && (!slices.Contains(t.Cols, key) || !slices.Contains(t.Cols, col)) {
			return nil, 0, 13
		}
		for _, cells := range t.Rows {
			if op == "lookup" && cells[slices.Index(t.Cols, col)].Kind != 0 && cells[slices.Index(t.Cols, col)].Kind != kindOfX {
				return nil, 0, 14
			}
		}
	}
	if op == "col" {
		at := slices.IndexFunc(cols, func(c api.Column) bool { return c.Name == param })
		if at < 0 {
			return nil, 0, 13
		}
		return nil, cols[at].Kind, 0
	}
	var kinds []int
	for _, word := range append(slices.Clone(arguments), result) {
		if word == "X" {
			kinds = append(kinds, kindOfX)
		} else {
			kinds = append(kinds, kindOf(word))
		}
	}
	return kinds[:len(kinds)-1], kinds[len(kinds)-1], 0
}

// wantedFault returns the error of an argument that counts.
func wantedFault(v api.Value, kind int) api.Errno {
	switch {
	case v.Kind == 0 && v.N == 0:
		return 16
	case v.Kind == 0:
		return api.Errno(v.N)
	case !value.Right(v) || v.Kind != kind:
		return 14
	}
	return 0
}

// wantedApply returns what Apply returns.
func wantedApply(c call) (api.Value, api.Errno) {
	kinds, _, e := wantedTypes(c.op, c.param, c.base, c.cols)
	if e == 0 && len(kinds) != len(c.args) {
		e = 14
	}
	for i, kind := range kinds {
		if e == 0 && (c.op != "if" || i == 0 || i == 1 && c.args[0].N == 1 || i == 2 && c.args[0].N == 0) {
			e = wantedFault(c.args[i], kind)
		}
	}
	if e != 0 {
		return api.Value{}, e
	}
	var v api.Value
	switch len(kinds) {
	case 0:
		v, e = wantedConstant(c)
	case 1:
		v, e = wantedOfOne(c, c.args[0])
	default:
		v, e = wantedOfTwo(c, c.args[0], c.args[1])
	}
	if e != 0 {
		return api.Value{}, e
	}
	return v, 0
}

// wantedConstant is for operators without arguments.
func wantedConstant(c call) (api.Value, api.Errno) {
	switch c.op {
	case "text":
		return text(c.param), 0
	case "number":
		return wantedNumber(rational(c.param))
	case "date":
		n, _ := date.Parse(c.param)
		return day(n), 0
	case "bool":
		return truth(int(c.param[0] - '0')), 0
	case "table":
		t, _ := tableNamed(c.base, c.param)
		return tableOf(t.Cols, t.Rows...), 0
	}
	if !value.Fits(c.cols, c.row) {
		return api.Value{}, 1
	}
	v := c.row[slices.IndexFunc(c.cols, func(col api.Column) bool { return col.Name == c.param })]
	return v, wantedFault(v, v.Kind)
}

// wantedOfOne is for operators with one argument.
func wantedOfOne(c call, a api.Value) (api.Value, api.Errno) {
	switch c.op {
	case "upper", "lower":
		return text(wantedCase(a.S, c.op == "upper")), 0
	case "trim":
		return text(regexp.MustCompile(`\A *(.*?) *\z`).ReplaceAllString(a.S, "$1")), 0
	case "extract":
		form, number := lastCut(c.param, "#")
		p, _, _ := pattern.Parse(form)
		n, _ := strconv.Atoi(number)
		if from, to, ok := pattern.Find(p, a.S, n); ok {
			return text(a.S[from:to]), 0
		}
		return api.Value{}, 18
	case "length":
		return number(strings.Count(a.S, "")-1, 0), 0
	case "parse":
		if !isDecimal(a.S) {
			return api.Value{}, 11
		}
		return wantedNumber(rational(a.S))
	case "print":
		return text(ratOf(a).FloatString(a.D.Scale)), 0
	case "round":
		return wantedRound(a, int(c.param[0]-'0'))
	case "read":
		if n, ok := date.Read(c.param, a.S); ok {
			return day(n), 0
		}
		return api.Value{}, 11
	case "show":
		s, _ := date.Format(c.param, a.N)
		return text(s), 0
	case "match":
		p, _, _ := pattern.Parse(c.param)
		return isTrue(pattern.Matches(p, a.S)), 0
	case "not":
		return truth(1 - a.N), 0
	}
	return wantedOfTable(c, a)
}

// wantedOfTable is for operators with one argument on tables.
func wantedOfTable(c call, a api.Value) (api.Value, api.Errno) {
	switch c.op {
	case "lookup":
		name, key, col := readsOf(c.op, c.param)
		t, _ := tableNamed(c.base, name)
		return table.Find(t, key, a, col)
	case "pick":
		return table.Pick(a, strings.Split(c.param, ","))
	case "sum":
		column, least, _ := strings.Cut(c.param, ">=")
		v, _ := wantedNumber(rational(least))
		return table.Sum(a, column, v.D)
	case "count":
		return number(len(a.Rows), 0), 0
	}
	column, kind, _ := strings.Cut(c.param, ":")
	at := slices.Index(a.Cols, column)
	switch {
	case at < 0:
		return api.Value{}, 13
	case len(a.Rows) == 0 || a.Rows[0][at].Kind == 0:
		return api.Value{}, 18
	case a.Rows[0][at].Kind != kindOf(kind):
		return api.Value{}, 14
	}
	return a.Rows[0][at], 0
}

// wantedOfTwo is for operators with two arguments, and for if.
func wantedOfTwo(c call, a, b api.Value) (api.Value, api.Errno) {
	switch c.op {
	case "concat":
		if len(a.S)+len(b.S) > 200 {
			return api.Value{}, 3
		}
		return text(a.S + b.S), 0
	case "add":
		return wantedNumber(new(big.Rat).Add(ratOf(a), ratOf(b)))
	case "sub":
		return wantedNumber(new(big.Rat).Sub(ratOf(a), ratOf(b)))
	case "mul":
		return wantedNumber(new(big.Rat).Mul(ratOf(a), ratOf(b)))
	case "days":
		if !ratOf(b).IsInt() {
			return api.Value{}, 15
		}
		n := new(big.Int).Add(big.NewInt(int64(a.N)), ratOf(b).Num())
		if n.Sign() < 0 || n.Cmp(big.NewInt(3652058)) > 0 {
			return api.Value{}, 3
		}
		return day(int(n.Int64())), 0
	case "between":
		return number(b.N-a.N, 0), 0
	case "equal":
		return isTrue(fields(a) == fields(b)), 0
	case "before":
		return isTrue(b.N > a.N), 0
	case "less":
		return isTrue(ratOf(b).Cmp(ratOf(a)) > 0), 0
	case "and":
		return truth(a.N * b.N), 0
	case "if":
		return c.args[2-a.N], 0
	case "where":
		return table.Where(a, c.param, b)
	}
	return table.Join(a, b, c.param)
}

// isTrue returns a bool.
func isTrue(holds bool) api.Value {
	if holds {
		return truth(1)
	}
	return truth(0)
}

// wantedCase returns a text with its letters in one case.
func wantedCase(s string, upper bool) string {
	const low, high = "abcdefghijklmnopqrstuvwxyz", "ABCDEFGHIJKLMNOPQRSTUVWXYZ"
	var pairs []string
	for i := range low {
		if upper {
			pairs = append(pairs, low[i:i+1], high[i:i+1])
		} else {
			pairs = append(pairs, high[i:i+1], low[i:i+1])
		}
	}
	return strings.NewReplacer(pairs...).Replace(s)
}

// rational returns the number with the text of a decimal.
func rational(s string) *big.Rat {
	r, _ := new(big.Rat).SetString(s)
	return r
}

// ratOf returns the number of a value.
func ratOf(v api.Value) *big.Rat {
	unit := new(big.Int).Exp(big.NewInt(10), big.NewInt(int64(v.D.Scale)), nil)
	return new(big.Rat).SetFrac(big.NewInt(int64(v.D.N)), unit)
}

// wantedNumber returns a number; ErrRange, if it is no decimal.
func wantedNumber(r *big.Rat) (api.Value, api.Errno) {
	units := new(big.Rat).Set(r)
	for scale := range 7 {
		if units.IsInt() {
			if units.Num().CmpAbs(big.NewInt(1e15)) > 0 {
				break
			}
			return number(int(units.Num().Int64()), scale), 0
		}
		units.Mul(units, big.NewRat(10, 1))
	}
	return api.Value{}, 3
}

// wantedRound returns the multiple of 10^-scale that is nearest to a number.
func wantedRound(v api.Value, scale int) (api.Value, api.Errno) {
	unit := new(big.Rat).SetInt(new(big.Int).Exp(big.NewInt(10), big.NewInt(int64(scale)), nil))
	units := new(big.Rat).Add(new(big.Rat).Mul(new(big.Rat).Abs(ratOf(v)), unit), big.NewRat(1, 2))
	rounded := new(big.Rat).Quo(new(big.Rat).SetInt(new(big.Int).Quo(units.Num(), units.Denom())), unit)
	if v.D.N < 0 {
		rounded.Neg(rounded)
	}
	return wantedNumber(rounded)
}
