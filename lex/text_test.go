package lex

import (
	"math"
	"math/rand"
	"strings"
	"testing"

	"intarsia/api"
)

func wantText(t *testing.T, x Token, want string) {
	t.Helper()
	if got := Text(x); got != want {
		t.Errorf("Text(%#v) = %.60q, want %.60q", x, got, want)
	}
}

// signs are the preds' signs, by their numbers.
func signs() []string { return []string{"=", "<>", "<", "<=", ">", ">="} }

// P14.2: each kind, whatever the fields of other kinds are.
func TestTextKinds(t *testing.T) {
	told := []string{"(", ")", "{", "}", "<<", ">>", "-->", "-", "^n", "<n>", ">=", "v"}
	for kind := range 256 {
		x := Token{Kind: uint8(kind), Name: "n", Pred: 5, Val: api.Value{Kind: 2, S: "v"}, At: 7}
		if kind < len(told) {
			wantText(t, x, told[kind])
		} else {
			wantText(t, x, "")
			wantText(t, Token{Kind: uint8(kind)}, "")
		}
		if kind < 8 {
			wantText(t, Token{Kind: uint8(kind), At: -1}, told[kind])
		}
	}
	wantText(t, Token{}, "(")
	wantText(t, Token{Kind: Val}, "nil")
	wantText(t, Token{Kind: Pred}, "=")
}

// P14.2: each pred.
func TestTextPreds(t *testing.T) {
	for pred := range 256 {
		want := ""
		if pred < 6 {
			want = signs()[pred]
		}
		wantText(t, Token{Kind: Pred, Pred: uint8(pred)}, want)
	}
}

// P14.2: names as they are, also such that no run tells.
func TestTextNames(t *testing.T) {
	for _, name := range []string{"", "a", "5", "nil", "-", "\u20ac", " ", "a b", "<", ">", "^", "\xff", "\x00", repeated("a", 25), repeated("x", 100000)} {
		wantText(t, Token{Kind: Attr, Name: name}, "^"+name)
		wantText(t, Token{Kind: Var, Name: name}, "<"+name+">")
	}
}

// P14.2: values, also such that may not be.
func TestTextVals(t *testing.T) {
	for want, v := range map[string]api.Value{
		"nil": {}, "0": {Kind: 1}, "5": {Kind: 1, N: 5}, "-5": {Kind: 1, N: -5}, "1099511627776": {Kind: 1, N: most}, "-1099511627776": {Kind: 1, N: -most},
		"a": {Kind: 2, S: "a"}, "-": {Kind: 2, S: "-"}, "\u20ac": {Kind: 2, S: "\u20ac"},
	} {
		wantText(t, Token{Kind: Val, Val: v}, want)
	}
	for _, v := range []api.Value{
		{Kind: 3}, {Kind: 255, N: 5, S: "a"}, {N: 1}, {S: "a"}, {Kind: 1, S: "a"}, {Kind: 1, N: most + 1}, {Kind: 1, N: -most - 1}, {Kind: 1, N: math.MinInt}, {Kind: 1, N: math.MaxInt},
		{Kind: 2}, {Kind: 2, N: 1, S: "a"}, {Kind: 2, S: "nil"}, {Kind: 2, S: "5"}, {Kind: 2, S: "-5"}, {Kind: 2, S: "a b"}, {Kind: 2, S: "\xff"}, {Kind: 2, S: repeated("a", 25)},
	} {
		wantText(t, Token{Kind: Val, Val: v}, "nil")
	}
}

// P14.2: a token that was scanned stands in its text as it is told, but for a
// number's noughts and plus.
func TestTextStands(t *testing.T) {
	text := "(p r{<= <x> <>nil}<<a -1 \u20ac>>)-->-(^\u00e9 > 5)"
	l, _, err := Scan(text)
	if err != api.OK || len(l) != 22 {
		t.Fatalf("%#v, %d", l, int(err))
	}
	for _, x := range l {
		if !strings.HasPrefix(text[x.At:], Text(x)) {
			t.Errorf("%#v: %q does not stand there", x, Text(x))
		}
	}
	l, _, _ = Scan("+05 -07 -0")
	for i, want := range []string{"5", "-7", "0"} {
		wantText(t, l[i], want)
	}
}

// joined puts tokens' texts together as P14.3 says, and lays their places into
// the tokens.
func joined(l []Token) string {
	s := ""
	for i := range l {
		if i > 0 && !(l[i-1].Kind == Not && l[i].Kind == Open) {
			s += " "
		}
		l[i].At = len(s)
		s += Text(l[i])
	}
	return s
}

// drawnTokens draws tokens; a Not has an Open behind it, since without it its
// text is that of a Val.
func drawnTokens(r *rand.Rand) []Token {
	var l []Token
	for range r.Intn(20) {
		x := drawnToken(r)
		l = append(l, x)
		if x.Kind == Not {
			l = append(l, Token{Kind: Open})
		}
	}
	return l
}

// P14.3: drawn tokens' texts are scanned as these tokens.
func TestTextScanned(t *testing.T) {
	r := rand.New(rand.NewSource(143))
	for range 30000 {
		l := drawnTokens(r)
		text := joined(l)
		wantTokens(t, text, l...)
		if t.Failed() {
			return
		}
	}
}

// P14.3: each two tokens.
func TestTextScannedPairs(t *testing.T) {
	all := append(alone(), wanted{tokens: list(mk(Not, 0), mk(Open, 0))})
	for _, a := range all {
		for _, b := range all {
			l := append(append([]Token{}, a.tokens...), b.tokens...)
			text := joined(l)
			wantTokens(t, text, l...)
		}
	}
}

// P14.3: what is scanned of any text is scanned again of its tokens' texts.
func TestScannedAgain(t *testing.T) {
	r := rand.New(rand.NewSource(1431))
	pieces := []string{"<", ">", "=", "-", "(", ")", "{", "}", "^a", "x", "5", "+7", "nil", " ", "\n", ";r\n", "\u00e9", "-(", "-->", "<v>", "#"}
	for range 30000 {
		text := ""
		for range r.Intn(15) {
			text += pieces[r.Intn(len(pieces))]
		}
		l, _, _ := Scan(text)
		again := joined(l)
		wantTokens(t, again, l...)
		if t.Failed() {
			t.Fatalf("of %q", text)
		}
	}
}
