package pattern

import (
	"strings"

	"concord/api"
)

// reader reads the written form of a pattern from the left to the right. Its methods panic with a fault at the first byte that does not fit, as they call each other several levels deep.
type reader struct {
	text string
	at   int
}

// fault is what does not fit in a written form: its offset, and the error that it is.
type fault struct {
	at   int
	kind api.Errno
}

// refuse panics with the next byte, or with the end of the text, as what does not fit.
func (r *reader) refuse() {
	panic(fault{r.at, api.ErrToken})
}

// next returns the next byte; 0, which fits nowhere, at the end of the text.
func (r *reader) next() byte {
	if r.at == len(r.text) {
		return 0
	}
	return r.text[r.at]
}

// take reads the next byte, if it is c, and reports whether it is.
func (r *reader) take(c byte) bool {
	if r.next() != c {
		return false
	}
	r.at++
	return true
}

// pieces reads pieces up to the end of the text.
func (r *reader) pieces() []api.Piece {
	var pieces []api.Piece
	for r.at < len(r.text) {
		pieces = append(pieces, r.piece())
	}
	return pieces
}

// piece reads a run, or a literal as far as it reaches.
func (r *reader) piece() api.Piece {
	class := r.classOfRun()
	if class == literal {
		return api.Piece{Text: r.literal()}
	}
	r.at += len(`\d`)
	least, most := r.count()
	return api.Piece{Class: class, Least: least, Most: most}
}

// classOfRun returns the class of the run that begins with the next byte; that of literals, if none does.
func (r *reader) classOfRun() int {
	ahead := r.text[r.at:]
	if len(ahead) < len(`\d`) || ahead[0] != escape {
		return literal
	}
	return strings.IndexByte(classLetters, ahead[1]) + 1
}

// literal reads the characters up to the next run, or to the end of the text.
func (r *reader) literal() string {
	var text []byte
	for r.at < len(r.text) && r.classOfRun() == literal {
		text = append(text, r.character())
	}
	return string(text)
}

// character reads a character of a literal, with its escape.
func (r *reader) character() byte {
	escaped := r.take(escape)
	c := r.next()
	if Class(c) == 0 || isSpecial(c) != escaped {
		r.refuse()
	}
	r.at++
	return c
}

// count reads how many characters a run has.
func (r *reader) count() (least, most int) {
	brace := r.at
	switch {
	case r.take('+'):
		return 1, api.MaxText
	case r.take('*'):
		return 0, api.MaxText
	case !r.take('{'):
		return 1, 1
	}
	least = r.number()
	most = least
	if r.take(',') {
		most = r.number()
	}
	if !r.take('}') {
		r.refuse()
	}
	if least > most || most == 0 || most > api.MaxText {
		panic(fault{brace, api.ErrRange})
	}
	return least, most
}

// number reads a number without zeros in front. One that is greater than MaxText is read as MaxText + 1, so that none wraps around.
func (r *reader) number() int {
	first := r.next()
	if Class(first) != digits {
		r.refuse()
	}
	r.at++
	n := int(first - '0')
	for first != '0' && Class(r.next()) == digits {
		n = min(10*n+int(r.next()-'0'), api.MaxText+1)
		r.at++
	}
	return n
}
