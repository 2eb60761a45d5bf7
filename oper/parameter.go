package oper

import (
	"strconv"
	"strings"

	"concord/api"
	"concord/date"
	"concord/decimal"
	"concord/pattern"
	"concord/value"
)

const maxFind = 20 // the greatest number that extract can have

// kindNames are the names of the kinds. (None has no name.)
var kindNames = [...]string{api.Text: "text", api.Number: "number", api.Date: "date", api.Bool: "bool", api.Table: "table"}

// parameter is what is read from the parameter of an operator. Each of its methods reads a form, of the whole parameter or of a part of it, and reports whether a string has this form.
type parameter struct {
	names    []string
	kind     int
	constant api.Value
	pieces   []api.Piece
	number   int
	layout   string
}

// nothing reads the parameter of an operator that has none.
func (p *parameter) nothing(s string) bool {
	return s == ""
}

// aName reads a name.
func (p *parameter) aName(s string) bool {
	p.names = append(p.names, s)
	return canBeColumns([]string{s})
}

// differentNames reads one to eight different names with a comma between each two.
func (p *parameter) differentNames(s string) bool {
	p.names = strings.SplitN(s, ",", api.MaxCols+1)
	return canBeColumns(p.names)
}

// canBeColumns reports whether a table can have these columns: package value only says of tables what a name is.
func canBeColumns(names []string) bool {
	return value.Right(api.Value{Kind: api.Table, Cols: names})
}

// threeNames reads three names with a point between each two. (A fourth one would be in the last part, which would be no name.)
func (p *parameter) threeNames(s string) bool {
	parts := strings.SplitN(s, ".", 3)
	return len(parts) == 3 && p.aName(parts[0]) && p.aName(parts[1]) && p.aName(parts[2])
}

// kindUpTo reads the name of a kind that is not greater than last.
func (p *parameter) kindUpTo(last int, s string) bool {
	for kind, name := range kindNames {
		if name == s && api.None < kind && kind <= last {
			p.kind = kind
			return true
		}
	}
	return false
}

// kindOfValue reads the name of a kind.
func (p *parameter) kindOfValue(s string) bool {
	return p.kindUpTo(api.Table, s)
}

// kindOfCell reads the name of a kind that a cell of a table can have.
func (p *parameter) kindOfCell(s string) bool {
	return p.kindUpTo(api.Bool, s)
}

// kindToCompare reads the name of a kind whose values can be compared.
func (p *parameter) kindToCompare(s string) bool {
	return p.kindUpTo(api.Date, s)
}

// aText reads a text.
func (p *parameter) aText(s string) bool {
	p.constant = text(s)
	return value.Right(p.constant)
}

// aNumber reads the text of a decimal.
func (p *parameter) aNumber(s string) bool {
	d, ok := decimal.Parse(s)
	p.constant = number(d)
	return ok
}

// aDate reads the text of a date.
func (p *parameter) aDate(s string) bool {
	n, ok := date.Parse(s)
	p.constant = day(n)
	return ok
}

// aBool reads 0 or 1.
func (p *parameter) aBool(s string) bool {
	p.constant = truth(s == "1")
	return s == "0" || s == "1"
}

// aPattern reads the written form of a right pattern, which is the only one of its forms that Print returns.
func (p *parameter) aPattern(s string) bool {
	pieces, _, e := pattern.Parse(s)
	p.pieces = pieces
	return e == api.OK && pattern.Print(pieces) == s
}

// numberFrom reads a number from least to most in decimal, without zeros in front.
func (p *parameter) numberFrom(least, most int, s string) bool {
	n, err := strconv.Atoi(s)
	p.number = n
	return err == nil && least <= n && n <= most && strconv.Itoa(n) == s
}

// numberOfFind reads the number of a find.
func (p *parameter) numberOfFind(s string) bool {
	return p.numberFrom(1, maxFind, s)
}

// aScale reads how many places a decimal can have.
func (p *parameter) aScale(s string) bool {
	return p.numberFrom(0, api.MaxScale, s)
}

// aLayout reads a right layout: one in which package date formats any date.
func (p *parameter) aLayout(s string) bool {
	p.layout = s
	_, ok := date.Format(s, 0)
	return ok
}

// patternAndNumber reads a pattern, #, and the number of a find.
func (p *parameter) patternAndNumber(s string) bool {
	return areBoth(s, "#", p.aPattern, p.numberOfFind)
}

// columnsOfTable reads the names of a table and two of its columns, :, and the kind of a cell.
func (p *parameter) columnsOfTable(s string) bool {
	return areBoth(s, ":", p.threeNames, p.kindOfCell)
}

// columnAndKind reads a name, :, and the kind of a cell.
func (p *parameter) columnAndKind(s string) bool {
	return areBoth(s, ":", p.aName, p.kindOfCell)
}

// columnAndLeast reads a name, >=, and the text of a decimal.
func (p *parameter) columnAndLeast(s string) bool {
	return areBoth(s, ">=", p.aName, p.aNumber)
}

// areBoth reads what is before the last separator in s, and then what is after it.
func areBoth(s, separator string, readFirst, readSecond func(string) bool) bool {
	at := strings.LastIndex(s, separator)
	return at >= 0 && readFirst(s[:at]) && readSecond(s[at+len(separator):])
}
