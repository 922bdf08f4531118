package lex

import (
	"math/rand"
	"slices"
	"strings"
	"testing"

	"intarsia/api"
)

const (
	most    = 1 << 40 // the greatest number that may be
	maxText = 16384
	maxRun  = 24
)

// Short forms of tokens, with their places.
func mk(kind uint8, at int) Token               { return Token{Kind: kind, At: at} }
func attr(name string, at int) Token            { return Token{Kind: 8, Name: name, At: at} }
func vari(name string, at int) Token            { return Token{Kind: 9, Name: name, At: at} }
func pred(n uint8, at int) Token                { return Token{Kind: 10, Pred: n, At: at} }
func number(n, at int) Token                    { return Token{Kind: 11, Val: api.Value{Kind: 1, N: n}, At: at} }
func symbol(s string, at int) Token             { return Token{Kind: 11, Val: api.Value{Kind: 2, S: s}, At: at} }
func nothing(at int) Token                      { return Token{Kind: 11, At: at} }
func list(l ...Token) []Token                   { return l }
func repeated(s string, size int) string        { return strings.Repeat(s, size/len(s)+1)[:size] }
func has(chars string, c byte) bool             { return strings.IndexByte(chars, c) >= 0 }
func within(c byte, low, high byte) bool        { return low <= c && c <= high }
func begins(s string, at int, with string) bool { return strings.HasPrefix(s[at:], with) }

// wanted is what Scan is to tell of a text.
type wanted struct {
	text   string
	tokens []Token
}

func wantScan(t *testing.T, text string, tokens []Token, place int, err api.Errno) {
	t.Helper()
	l, n, e := Scan(text)
	if !slices.Equal(l, tokens) || n != place || e != err {
		t.Errorf("Scan(%.60q) = %#v, %d, %d; want %#v, %d, %d", text, l, n, int(e), tokens, place, int(err))
	}
	byTable, n, e := scanByTable(text)
	if !slices.Equal(byTable, tokens) || n != place || e != err {
		t.Errorf("%.60q: the test's own table tells %#v, %d, %d; want %#v, %d, %d", text, byTable, n, int(e), tokens, place, int(err))
	}
}

func wantTokens(t *testing.T, text string, tokens ...Token) {
	t.Helper()
	wantScan(t, text, tokens, 0, api.OK)
}

func wantWrong(t *testing.T, text string, place int, ahead ...Token) {
	t.Helper()
	wantScan(t, text, ahead, place, api.ErrLex)
}

// wantAsTable asks what a text is scanned as of the test's own table alone.
func wantAsTable(t *testing.T, text string) {
	t.Helper()
	l, n, e := Scan(text)
	tokens, place, err := scanByTable(text)
	if !slices.Equal(l, tokens) || n != place || e != err {
		t.Fatalf("Scan(%q) = %#v, %d, %d; want %#v, %d, %d", text, l, n, int(e), tokens, place, int(err))
	}
}

// pointSize tells how many bytes the code point at a place has, by the table of
// UTF-8's well-formed bytes; 0, if none stands there.
func pointSize(s string, at int) int {
	rest, low, high := 0, byte(0x80), byte(0xbf)
	switch c := s[at]; {
	case c < 0x80:
		return 1
	case within(c, 0xc2, 0xdf):
		rest = 1
	case within(c, 0xe0, 0xef):
		rest = 2
	case within(c, 0xf0, 0xf4):
		rest = 3
	default:
		return 0
	}
	switch s[at] {
	case 0xe0:
		low = 0xa0
	case 0xed:
		high = 0x9f
	case 0xf0:
		low = 0x90
	case 0xf4:
		high = 0x8f
	}
	for i := 1; i <= rest; i++ {
		if at+i >= len(s) || !within(s[at+i], low, high) {
			return 0
		}
		low, high = 0x80, 0xbf
	}
	return 1 + rest
}

// runEnd tells where the run that begins at a place ends.
func runEnd(s string, at int) int {
	const allowed = "abcdefghijklmnopqrstuvwxyz" + "ABCDEFGHIJKLMNOPQRSTUVWXYZ" + "0123456789" + "_-?!+*."
	for at < len(s) {
		size := pointSize(s, at)
		if size == 0 || size == 1 && !has(allowed, s[at]) {
			break
		}
		at += size
	}
	return at
}

// valueByTable tells a run's value, digit by digit.
func valueByTable(s string) (api.Value, bool) {
	if s == "nil" {
		return api.Value{}, true
	}
	digits := s
	if has("+-", s[0]) {
		digits = s[1:]
	}
	n := 0
	for i := range len(digits) {
		if !within(digits[i], '0', '9') {
			return api.Value{Kind: 2, S: s}, true
		}
		if n <= most {
			n = 10*n + int(digits[i]-'0')
		}
	}
	switch {
	case digits == "":
		return api.Value{Kind: 2, S: s}, true
	case n > most:
		return api.Value{}, false
	case s[0] == '-':
		n = -n
	}
	return api.Value{Kind: 1, N: n}, true
}

// whiteEnd tells where the white that begins at a place ends.
func whiteEnd(s string, at int) int {
	for at < len(s) && has(" \t\n\r;", s[at]) {
		if s[at] == ';' {
			for at < len(s) && s[at] != '\n' {
				at++
			}
		} else {
			at++
		}
	}
	return at
}

// fixed are the tokens that have one text, each ahead of those that it may begin
// with.
func fixed() []wanted {
	return []wanted{
		{"(", list(mk(0, 0))}, {")", list(mk(1, 0))}, {"{", list(mk(2, 0))}, {"}", list(mk(3, 0))},
		{"<<", list(mk(4, 0))}, {">>", list(mk(5, 0))}, {"-->", list(mk(6, 0))},
		{"<=", list(pred(3, 0))}, {"<>", list(pred(1, 0))}, {">=", list(pred(5, 0))},
		{"<", list(pred(2, 0))}, {">", list(pred(4, 0))}, {"=", list(pred(0, 0))},
	}
}

// tokenByTable is P14.1's list, from the token at a place to the place behind
// it; false, if there is none.
func tokenByTable(s string, at int) (Token, int, bool) {
	if s[at] == '<' && !begins(s, at, "<<") && !begins(s, at, "<=") && !begins(s, at, "<>") {
		if end := runEnd(s, at+1); end < len(s) && s[end] == '>' {
			return vari(s[at+1:end], at), end + 1, end-at-1 <= maxRun
		}
	}
	if begins(s, at, "-(") {
		return mk(7, at), at + 1, true
	}
	for _, f := range fixed() {
		if begins(s, at, f.text) {
			t := f.tokens[0]
			t.At = at
			return t, at + len(f.text), true
		}
	}
	if s[at] == '^' {
		end := runEnd(s, at+1)
		return attr(s[at+1:end], at), end, end-at-1 >= 1 && end-at-1 <= maxRun
	}
	end := runEnd(s, at)
	if end == at || end-at > maxRun {
		return Token{}, 0, false
	}
	v, ok := valueByTable(s[at:end])
	return Token{Kind: 11, Val: v, At: at}, end, ok
}

// scanByTable is P14.1, byte by byte, without a call of package value.
func scanByTable(s string) ([]Token, int, api.Errno) {
	if len(s) > maxText {
		return nil, 0, api.ErrLong
	}
	var l []Token
	for at := whiteEnd(s, 0); at < len(s); at = whiteEnd(s, at) {
		t, end, ok := tokenByTable(s, at)
		if !ok {
			return l, at, api.ErrLex
		}
		l = append(l, t)
		at = end
	}
	return l, 0, api.OK
}

// drawnRun draws a run of 1 to 24 bytes.
func drawnRun(r *rand.Rand) string {
	points := []string{"a", "b", "Z", "0", "7", "-", "+", "_", "?", "!", "*", ".", "nil", "--", "\u00e9", "\u20ac", "\U0001f600", "\ufffd", "\u0080", "\u2028"}
	s := points[r.Intn(len(points))]
	for r.Intn(4) > 0 {
		p := points[r.Intn(len(points))]
		if len(s)+len(p) > maxRun {
			break
		}
		s += p
	}
	return s
}

// drawnValue draws a value that may be.
func drawnValue(r *rand.Rand) api.Value {
	switch r.Intn(4) {
	case 0:
		return api.Value{}
	case 1:
		return api.Value{Kind: 1, N: (r.Intn(2*most+1) - most) >> r.Intn(41)}
	}
	for {
		if v, ok := valueByTable(drawnRun(r)); ok {
			return v
		}
	}
}

// drawnToken draws a token of any kind, without a place.
func drawnToken(r *rand.Rand) Token {
	t := Token{Kind: uint8(r.Intn(12))}
	switch t.Kind {
	case Attr, Var:
		t.Name = drawnRun(r)
	case Pred:
		t.Pred = uint8(r.Intn(6))
	case Val:
		t.Val = drawnValue(r)
	}
	return t
}
