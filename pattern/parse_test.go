package pattern_test

import (
	"fmt"
	"math/big"
	"regexp"
	"slices"
	"strings"
	"testing"

	"concord/api"
	"concord/pattern"
)

// P5.1: Parse.

const (
	numberSource = `(?:0|[1-9][0-9]*)`
	runSource    = `\\[dulaso.](?:\+|\*|\{` + numberSource + `(?:,` + numberSource + `)?\})?`
	textSource   = `\\[\\{}+*]|[^\\{}+*\x00-\x1f\x7f-\x{10ffff}]`
)

var (
	// beginning is what some written form, with counts of any size, begins with.
	beginning = regexp.MustCompile(`\A(?:` + runSource + `|` + textSource + `)*(?:\\|\\[dulaso.]\{(?:` + numberSource + `(?:,` + numberSource + `?)?)?)?\z`)
	// complete is a written form, with counts of any size.
	complete = regexp.MustCompile(`\A(?:` + runSource + `|` + textSource + `)*\z`)
	token    = regexp.MustCompile(`(` + runSource + `)|(` + textSource + `)`)
	counted  = regexp.MustCompile(`\A\\(.)(.*)\z`)
	numbers  = regexp.MustCompile(`[0-9]+`)
)

// outcome is what Parse returns.
type outcome struct {
	p  []api.Piece
	at int
	e  api.Errno
}

// parse returns what Parse should return: what comes after the longest beginning of a written form does not fit.
func parse(s string) outcome {
	if len(s) > 60 {
		return outcome{e: api.ErrMany}
	}
	fitting := len(s)
	for !beginning.MatchString(s[:fitting]) {
		fitting--
	}
	var p []api.Piece
	at := 0
	for _, found := range token.FindAllString(s[:fitting], -1) {
		// The run of an unfinished count is a token too, but nothing comes after it that is complete.
		piece, right := pieceOf(found)
		if !right {
			return outcome{at: at + 2, e: api.ErrRange}
		}
		if last := len(p) - 1; piece.Class == 0 && last >= 0 && p[last].Class == 0 {
			p[last].Text += piece.Text
		} else {
			p = append(p, piece)
		}
		at += len(found)
	}
	if !complete.MatchString(s) {
		return outcome{at: fitting, e: api.ErrToken}
	}
	return outcome{p: p}
}

// pieceOf returns the piece of a token, or false for a run with a count that is too great or has the wrong order.
func pieceOf(found string) (api.Piece, bool) {
	parts := counted.FindStringSubmatch(found)
	switch {
	case parts == nil:
		return api.Piece{Text: found}, true
	case strings.Contains(`\{}+*`, parts[1]):
		return api.Piece{Text: parts[1]}, true
	}
	piece := api.Piece{Class: strings.Index("_dulaso.", parts[1]), Least: 1, Most: 1}
	switch parts[2] {
	case "":
		return piece, true
	case "+":
		piece.Most = 200
		return piece, true
	case "*":
		piece.Least, piece.Most = 0, 200
		return piece, true
	}
	var counts []*big.Int
	for _, digits := range numbers.FindAllString(parts[2], -1) {
		n, _ := new(big.Int).SetString(digits, 10)
		counts = append(counts, n)
	}
	least, most := counts[0], counts[len(counts)-1]
	if least.Cmp(most) > 0 || most.Sign() == 0 || most.Cmp(big.NewInt(200)) > 0 {
		return api.Piece{}, false
	}
	piece.Least, piece.Most = int(least.Int64()), int(most.Int64())
	return piece, true
}

// checkParse compares the result of Parse with what it should be.
func checkParse(t *testing.T, s string) outcome {
	t.Helper()
	p, at, e := pattern.Parse(s)
	want := parse(s)
	if !slices.Equal(p, want.p) || at != want.at || e != want.e {
		t.Fatalf("Parse(%q) = %v, %d, %d, not %v", s, p, at, e, want)
	}
	return want
}

func TestExamplesOfParse(t *testing.T) {
	run := func(class, least, most int) api.Piece { return api.Piece{Class: class, Least: least, Most: most} }
	text := func(s string) api.Piece { return api.Piece{Text: s} }
	for s, want := range map[string][]api.Piece{
		"": nil, " ": {text(" ")}, "abc": {text("abc")}, `a\+\\b`: {text(`a+\b`)}, `\\\{\}\+\*`: {text(`\{}+*`)}, `\\d`: {text(`\d`)}, `\\\d`: {text(`\`), run(1, 1, 1)}, "~,.0": {text("~,.0")},
		`\d{4}-\d+`: {run(1, 4, 4), text("-"), run(1, 1, 200)}, `\d\u\l\a\s\o\.`: {run(1, 1, 1), run(2, 1, 1), run(3, 1, 1), run(4, 1, 1), run(5, 1, 1), run(6, 1, 1), run(7, 1, 1)},
		`\d*`: {run(1, 0, 200)}, `\d{0,200}`: {run(1, 0, 200)}, `\d{1,200}`: {run(1, 1, 200)}, `\d{1}`: {run(1, 1, 1)}, `\d{1,1}`: {run(1, 1, 1)}, `\d{0,1}`: {run(1, 0, 1)}, `\d{200}`: {run(1, 200, 200)}, `\d{10,100}`: {run(1, 10, 100)}, `\d{3,3}`: {run(1, 3, 3)},
		`\d\+`: {run(1, 1, 1), text("+")}, `\d\{2\}`: {run(1, 1, 1), text("{2}")}, `\d2`: {run(1, 1, 1), text("2")}, `\d{2}2,3`: {run(1, 2, 2), text("2,3")}, `\d\d`: {run(1, 1, 1), run(1, 1, 1)}, `\d+d`: {run(1, 1, 200), text("d")}, `d,0`: {text("d,0")}, `\u{0,3}x \s{2}`: {run(2, 0, 3), text("x "), run(5, 2, 2)},
	} {
		if p, at, e := pattern.Parse(s); !slices.Equal(p, want) || at != 0 || e != api.OK {
			t.Errorf("Parse(%q) = %v, %d, %d, not %v", s, p, at, e, want)
		}
		checkParse(t, s)
	}
}

func TestErrorsOfParse(t *testing.T) {
	for _, c := range []struct {
		s  string
		at int
		e  api.Errno
	}{
		{`\x`, 1, api.ErrToken}, {`a+`, 1, api.ErrToken}, {`\d{5,2}`, 2, api.ErrRange}, {`\d{x}`, 3, api.ErrToken},
		{`\`, 1, api.ErrToken}, {`ab\`, 3, api.ErrToken}, {`\d\`, 3, api.ErrToken}, {`\\\`, 3, api.ErrToken}, {`\ `, 1, api.ErrToken}, {"\\\x00", 1, api.ErrToken}, {`\D`, 1, api.ErrToken}, {`\0`, 1, api.ErrToken}, {`\_`, 1, api.ErrToken}, {`\-`, 1, api.ErrToken}, {`a\,`, 2, api.ErrToken},
		{"{", 0, api.ErrToken}, {"}", 0, api.ErrToken}, {"+", 0, api.ErrToken}, {"*", 0, api.ErrToken}, {"ab}", 2, api.ErrToken}, {"a{2}", 1, api.ErrToken}, {`\d++`, 3, api.ErrToken}, {`\d+*`, 3, api.ErrToken}, {`\d*{2}`, 3, api.ErrToken}, {`\d{2}+`, 5, api.ErrToken}, {`\d{2}{3}`, 5, api.ErrToken}, {`\d}`, 2, api.ErrToken}, {`\++`, 2, api.ErrToken},
		{"\x1f", 0, api.ErrToken}, {"\x7f", 0, api.ErrToken}, {"ab\n", 2, api.ErrToken}, {"aé", 1, api.ErrToken}, {"\\d\x00", 2, api.ErrToken}, {"\xff", 0, api.ErrToken},
		{`\d{`, 3, api.ErrToken}, {`\d{}`, 3, api.ErrToken}, {`\d{,}`, 3, api.ErrToken}, {`\d{,2}`, 3, api.ErrToken}, {`\d{-1}`, 3, api.ErrToken}, {`\d{ 1}`, 3, api.ErrToken}, {`\d{+1}`, 3, api.ErrToken}, {`\d{\d`, 3, api.ErrToken}, {"\\d{\x00", 3, api.ErrToken},
		{`\d{1`, 4, api.ErrToken}, {`\d{0`, 4, api.ErrToken}, {`\d{12`, 5, api.ErrToken}, {`\d{01}`, 4, api.ErrToken}, {`\d{00}`, 4, api.ErrToken}, {`\d{1 }`, 4, api.ErrToken}, {`\d{1;2}`, 4, api.ErrToken}, {`\d{1{`, 4, api.ErrToken}, {`\d{12x`, 5, api.ErrToken}, {`\d{1,`, 5, api.ErrToken}, {`\d{1,}`, 5, api.ErrToken}, {`\d{1,,2}`, 5, api.ErrToken}, {`\d{1,x}`, 5, api.ErrToken}, {`\d{1,02}`, 6, api.ErrToken}, {`\d{1,2`, 6, api.ErrToken}, {`\d{1,2,3}`, 6, api.ErrToken}, {`\d{1,2x`, 6, api.ErrToken}, {`\d{1,20+`, 7, api.ErrToken},
		{`\d{0}`, 2, api.ErrRange}, {`\d{0,0}`, 2, api.ErrRange}, {`\d{1,0}`, 2, api.ErrRange}, {`\d{201}`, 2, api.ErrRange}, {`\d{1,201}`, 2, api.ErrRange}, {`\d{201,200}`, 2, api.ErrRange}, {`\d{0,1000}`, 2, api.ErrRange}, {`\d{2,1}`, 2, api.ErrRange}, {`\d{10,9}`, 2, api.ErrRange}, {`ab\d{3,2}`, 4, api.ErrRange}, {`\u+\d{3,2}`, 5, api.ErrRange},
		{`\d{9`, 4, api.ErrToken}, {`\d{999x`, 6, api.ErrToken}, {`\d{999,`, 7, api.ErrToken}, {`\d{0,0x`, 6, api.ErrToken}, {`\d{5,2`, 6, api.ErrToken}, {`\d{5,2}}`, 2, api.ErrRange}, {`\d{5,2}\x`, 2, api.ErrRange}, {`\x\d{5,2}`, 1, api.ErrToken}, {`\d{0}\d{5,2}`, 2, api.ErrRange},
	} {
		if p, at, e := pattern.Parse(c.s); len(p) != 0 || at != c.at || e != c.e {
			t.Errorf("Parse(%q) = %v, %d, %d, not %d, %d", c.s, p, at, e, c.at, c.e)
		}
		checkParse(t, c.s)
	}
}

// TestGreatCounts has counts that do not fit into an int of any size, among them such that wrap around to right ones.
func TestGreatCounts(t *testing.T) {
	for _, power := range []uint{8, 16, 31, 32, 63, 64, 65, 96, 128} {
		for by := -2; by <= 202; by += 4 {
			n := new(big.Int).Lsh(big.NewInt(1), power)
			n.Add(n, big.NewInt(int64(by)))
			for _, count := range []string{"{%d}", "{%d,5}", "{1,%d}", "{0,%d}", "{%[1]d,%[1]d}", "{%d", "{%d,", "{%dx}", "{3,%d,"} {
				checkParse(t, `x\d`+fmt.Sprintf(count, n))
			}
		}
	}
	for length := range 58 {
		for _, digit := range []string{"0", "1", "9"} {
			for _, end := range []string{"}", ",1}", ",}", ""} {
				checkParse(t, `\l{`+strings.Repeat(digit, length)+end)
				checkParse(t, `\l{1`+strings.Repeat(digit, length)+end)
			}
		}
	}
}

func TestLengthsOfForms(t *testing.T) {
	for length := range 70 {
		for _, begin := range []string{"", `\d{2}`, "}", `\x`, `\d{0}`, "\x00"} {
			for _, fill := range []string{"a", `\`, "}", "\xff", `\d`, `\{`, "+"} {
				s := (begin + strings.Repeat(fill, length))[:max(length, len(begin))]
				if want := checkParse(t, s); (want.e == api.ErrMany) != (len(s) > 60) {
					t.Errorf("Parse(%q): %d", s, want.e)
				}
			}
		}
	}
	for _, s := range []string{strings.Repeat(`\`, 1<<20), strings.Repeat("}", 61), strings.Repeat("a", 1<<24)} {
		checkParse(t, s)
	}
}

// TestAllShortForms has all strings of up to five of these bytes, and such behind the beginnings of counts.
func TestAllShortForms(t *testing.T) {
	found := map[api.Errno]int{}
	var try func(begin string, left int)
	try = func(begin string, left int) {
		found[checkParse(t, begin).e]++
		if left == 0 {
			return
		}
		for _, c := range `\d{},02+x` {
			try(begin+string(c), left-1)
		}
	}
	try("", 5)
	try(`\d{`, 4)
	try(`*x\.{2`, 3)
	try(`\u{1,`, 4)
	for _, e := range []api.Errno{api.OK, api.ErrToken, api.ErrRange} {
		if found[e] < 100 {
			t.Errorf("%d was found %d times", e, found[e])
		}
	}
}

// TestBytesOfForms puts each byte at each place of some forms, in addition and instead of another one.
func TestBytesOfForms(t *testing.T) {
	for _, s := range []string{"", `ab`, `\d`, `\u{12,34}`, `\o{0,5}\++`, `a\.*b\s{3}`, `\\\l+`} {
		for at := range len(s) + 1 {
			for b := range 256 {
				c := string([]byte{byte(b)})
				checkParse(t, s[:at]+c+s[at:])
				checkParse(t, s[:at]+c+s[min(at+1, len(s)):])
			}
		}
	}
}

func TestParseOfSamples(t *testing.T) {
	s := &samples{state: 1}
	right := 0
	const tries = 30000
	for range tries {
		text := form(s.pattern(8))
		for range s.below(3) {
			at := s.below(len(text) + 1)
			text = text[:at] + string(`\{},+*019dx `[s.below(12)]) + text[min(at+s.below(2), len(text)):]
		}
		if checkParse(t, text).e == api.OK {
			right++
		}
	}
	if right < tries/4 || right > tries*9/10 {
		t.Errorf("%d of %d forms were right", right, tries)
	}
}
