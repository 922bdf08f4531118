package lex

import (
	"math/rand"
	"strings"
	"testing"
)

// alone are tokens of all kinds but Not, each by its text.
func alone() []wanted {
	return append(fixed(),
		wanted{"<x>", list(vari("x", 0))}, wanted{"<->", list(vari("-", 0))}, wanted{"<-->", list(vari("--", 0))}, wanted{"<nil>", list(vari("nil", 0))}, wanted{"<\u20ac>", list(vari("\u20ac", 0))},
		wanted{"^b", list(attr("b", 0))}, wanted{"^-", list(attr("-", 0))}, wanted{"^\u00e9", list(attr("\u00e9", 0))},
		wanted{"a", list(symbol("a", 0))}, wanted{"-", list(symbol("-", 0))}, wanted{"--", list(symbol("--", 0))}, wanted{"+", list(symbol("+", 0))}, wanted{"-a", list(symbol("-a", 0))}, wanted{"\ufffd", list(symbol("\ufffd", 0))},
		wanted{"5", list(number(5, 0))}, wanted{"-5", list(number(-5, 0))}, wanted{"+5", list(number(5, 0))}, wanted{"nil", list(nothing(0))},
	)
}

// P14.1: each token alone, and with white around it.
func TestTokenAlone(t *testing.T) {
	for _, w := range alone() {
		wantTokens(t, w.text, w.tokens...)
		for _, space := range []string{" ", "\n\t", ";(\n"} {
			moved := w.tokens[0]
			moved.At = len(space)
			wantTokens(t, space+w.text, moved)
			wantTokens(t, space+w.text+space, moved)
		}
	}
	wantTokens(t, "-(", mk(Not, 0), mk(Open, 1))
}

// P14.1: each pair of tokens one right behind the other, and with a blank
// between, where both are told as they are alone.
func TestTokenPairs(t *testing.T) {
	for _, a := range alone() {
		for _, b := range alone() {
			wantAsTable(t, a.text+b.text)
			moved := b.tokens[0]
			moved.At = len(a.text) + 1
			wantTokens(t, a.text+" "+b.text, a.tokens[0], moved)
		}
		wantAsTable(t, a.text+"-(")
		wantTokens(t, "-("+a.text, mk(Not, 0), mk(Open, 1), func() Token {
			moved := a.tokens[0]
			moved.At = 2
			return moved
		}())
	}
}

// P14.1: which of `<<`, `<=`, `<>`, `<x>` and `<` is told.
func TestTokenLess(t *testing.T) {
	for _, w := range []wanted{
		{"<<<", list(mk(Ones, 0), pred(2, 2))},
		{"<<<<", list(mk(Ones, 0), mk(Ones, 2))},
		{"<<=", list(mk(Ones, 0), pred(0, 2))},
		{"<<>", list(mk(Ones, 0), pred(4, 2))},
		{"<<>>", list(mk(Ones, 0), mk(Unones, 2))},
		{"<<x>", list(mk(Ones, 0), symbol("x", 2), pred(4, 3))},
		{"<<x>>", list(mk(Ones, 0), symbol("x", 2), mk(Unones, 3))},
		{"<<<x>>>", list(mk(Ones, 0), vari("x", 2), mk(Unones, 5))},
		{"<=<", list(pred(3, 0), pred(2, 2))},
		{"<==", list(pred(3, 0), pred(0, 2))},
		{"<=>", list(pred(3, 0), pred(4, 2))},
		{"<=>=", list(pred(3, 0), pred(5, 2))},
		{"<=x>", list(pred(3, 0), symbol("x", 2), pred(4, 3))},
		{"<><", list(pred(1, 0), pred(2, 2))},
		{"<>=", list(pred(1, 0), pred(0, 2))},
		{"<>>", list(pred(1, 0), pred(4, 2))},
		{"<>>>", list(pred(1, 0), mk(Unones, 2))},
		{"<><x>", list(pred(1, 0), vari("x", 2))},
		{"<>x>", list(pred(1, 0), symbol("x", 2), pred(4, 3))},
		{"<x>", list(vari("x", 0))},
		{"<x>>", list(vari("x", 0), pred(4, 3))},
		{"<x>>>", list(vari("x", 0), mk(Unones, 3))},
		{"<x>=", list(vari("x", 0), pred(0, 3))},
		{"<x>>=", list(vari("x", 0), pred(5, 3))},
		{"<x><y>", list(vari("x", 0), vari("y", 3))},
		{"<x<y>", list(pred(2, 0), symbol("x", 1), vari("y", 2))},
		{"<x", list(pred(2, 0), symbol("x", 1))},
		{"<x ", list(pred(2, 0), symbol("x", 1))},
		{"<x >", list(pred(2, 0), symbol("x", 1), pred(4, 3))},
		{"< x>", list(pred(2, 0), symbol("x", 2), pred(4, 3))},
		{"<x=>", list(pred(2, 0), symbol("x", 1), pred(0, 2), pred(4, 3))},
		{"<x)", list(pred(2, 0), symbol("x", 1), mk(Close, 2))},
		{"<x^y>", list(pred(2, 0), symbol("x", 1), attr("y", 2), pred(4, 4))},
		{"<5", list(pred(2, 0), number(5, 1))},
		{"<-5", list(pred(2, 0), number(-5, 1))},
		{"<-(", list(pred(2, 0), mk(Not, 1), mk(Open, 2))},
		{"<^b", list(pred(2, 0), attr("b", 1))},
		{"<(", list(pred(2, 0), mk(Open, 1))},
		{"<", list(pred(2, 0))},
		{"< ", list(pred(2, 0))},
		{"< <", list(pred(2, 0), pred(2, 2))},
		{"< =", list(pred(2, 0), pred(0, 2))},
		{"< >", list(pred(2, 0), pred(4, 2))},
	} {
		wantTokens(t, w.text, w.tokens...)
	}
}

// P14.1: which of `>>`, `>=`, `>` and `=` is told.
func TestTokenMore(t *testing.T) {
	for _, w := range []wanted{
		{">>>", list(mk(Unones, 0), pred(4, 2))},
		{">>>>", list(mk(Unones, 0), mk(Unones, 2))},
		{">>=", list(mk(Unones, 0), pred(0, 2))},
		{">>>=", list(mk(Unones, 0), pred(5, 2))},
		{">=>", list(pred(5, 0), pred(4, 2))},
		{">==", list(pred(5, 0), pred(0, 2))},
		{">=>>", list(pred(5, 0), mk(Unones, 2))},
		{">5", list(pred(4, 0), number(5, 1))},
		{"><x>", list(pred(4, 0), vari("x", 1))},
		{"><", list(pred(4, 0), pred(2, 1))},
		{"><>", list(pred(4, 0), pred(1, 1))},
		{"> >", list(pred(4, 0), pred(4, 2))},
		{"> =", list(pred(4, 0), pred(0, 2))},
		{"==", list(pred(0, 0), pred(0, 1))},
		{"=<", list(pred(0, 0), pred(2, 1))},
		{"=<=", list(pred(0, 0), pred(3, 1))},
		{"=>", list(pred(0, 0), pred(4, 1))},
		{"=>=", list(pred(0, 0), pred(5, 1))},
		{"=<x>", list(pred(0, 0), vari("x", 1))},
		{"=-5", list(pred(0, 0), number(-5, 1))},
	} {
		wantTokens(t, w.text, w.tokens...)
	}
}

// P14.1: which of `-->`, `-` ahead of `(`, and a run that begins with `-`.
func TestTokenMinus(t *testing.T) {
	for _, w := range []wanted{
		{"-->", list(mk(Arrow, 0))},
		{"-->-->", list(mk(Arrow, 0), mk(Arrow, 3))},
		{"-->>", list(mk(Arrow, 0), pred(4, 3))},
		{"-->>>", list(mk(Arrow, 0), mk(Unones, 3))},
		{"-->=", list(mk(Arrow, 0), pred(0, 3))},
		{"-->-(", list(mk(Arrow, 0), mk(Not, 3), mk(Open, 4))},
		{"-->(", list(mk(Arrow, 0), mk(Open, 3))},
		{"-->5", list(mk(Arrow, 0), number(5, 3))},
		{"-->-5", list(mk(Arrow, 0), number(-5, 3))},
		{"-->a", list(mk(Arrow, 0), symbol("a", 3))},
		{"--->", list(symbol("---", 0), pred(4, 3))},
		{"--->>", list(symbol("---", 0), mk(Unones, 3))},
		{"a-->", list(symbol("a--", 0), pred(4, 3))},
		{"5-->", list(symbol("5--", 0), pred(4, 3))},
		{"+-->", list(symbol("+--", 0), pred(4, 3))},
		{"\u00e9-->", list(symbol("\u00e9--", 0), pred(4, 4))},
		{"^-->", list(attr("--", 0), pred(4, 3))},
		{"<-->", list(vari("--", 0))},
		{"<--->", list(vari("---", 0))},
		{"<<-->", list(mk(Ones, 0), mk(Arrow, 2))},
		{">-->", list(pred(4, 0), mk(Arrow, 1))},
		{"=-->", list(pred(0, 0), mk(Arrow, 1))},
		{"<=-->", list(pred(3, 0), mk(Arrow, 2))},
		{"<>-->", list(pred(1, 0), mk(Arrow, 2))},
		{")-->(", list(mk(Close, 0), mk(Arrow, 1), mk(Open, 4))},
		{"<x>-->", list(vari("x", 0), mk(Arrow, 3))},
		{"->", list(symbol("-", 0), pred(4, 1))},
		{"->>", list(symbol("-", 0), mk(Unones, 1))},
		{"->=", list(symbol("-", 0), pred(5, 1))},
		{"-- >", list(symbol("--", 0), pred(4, 3))},
		{"- ->", list(symbol("-", 0), symbol("-", 2), pred(4, 3))},
		{"-- ->", list(symbol("--", 0), symbol("-", 3), pred(4, 4))},
		{"-(", list(mk(Not, 0), mk(Open, 1))},
		{"-((", list(mk(Not, 0), mk(Open, 1), mk(Open, 2))},
		{"-(-(", list(mk(Not, 0), mk(Open, 1), mk(Not, 2), mk(Open, 3))},
		{")-(", list(mk(Close, 0), mk(Not, 1), mk(Open, 2))},
		{"--(", list(symbol("--", 0), mk(Open, 2))},
		{"a-(", list(symbol("a-", 0), mk(Open, 2))},
		{"5-(", list(symbol("5-", 0), mk(Open, 2))},
		{"+-(", list(symbol("+-", 0), mk(Open, 2))},
		{"^-(", list(attr("-", 0), mk(Open, 2))},
		{"<x>-(", list(vari("x", 0), mk(Not, 3), mk(Open, 4))},
		{"<->(", list(vari("-", 0), mk(Open, 3))},
		{">-(", list(pred(4, 0), mk(Not, 1), mk(Open, 2))},
		{"- (", list(symbol("-", 0), mk(Open, 2))},
		{"-\n(", list(symbol("-", 0), mk(Open, 2))},
		{"-;\n(", list(symbol("-", 0), mk(Open, 3))},
		{"-)", list(symbol("-", 0), mk(Close, 1))},
		{"-{", list(symbol("-", 0), mk(Brace, 1))},
		{"-<x>", list(symbol("-", 0), vari("x", 1))},
		{"-^b", list(symbol("-", 0), attr("b", 1))},
		{"-", list(symbol("-", 0))},
		{"-5(", list(number(-5, 0), mk(Open, 2))},
		{"--5", list(symbol("--5", 0))},
		{"-a-", list(symbol("-a-", 0))},
		{"-nil", list(symbol("-nil", 0))},
		{"-\u20ac", list(symbol("-\u20ac", 0))},
		{"+(", list(symbol("+", 0), mk(Open, 1))},
		{"*(", list(symbol("*", 0), mk(Open, 1))},
	} {
		wantTokens(t, w.text, w.tokens...)
	}
}

// P14.1: all texts of up to five pieces, that begin and end tokens.
func TestScanShortTexts(t *testing.T) {
	pieces := []string{"<", ">", "=", "-", "(", "^", "a", "5", " ", ";", "\n", "\xc3", "\xa9"}
	texts := []string{""}
	for range 5 {
		var longer []string
		for _, s := range texts {
			for _, p := range pieces {
				wantAsTable(t, s+p)
				longer = append(longer, s+p)
			}
		}
		texts = longer
	}
}

// P14.1: drawn texts of tokens and pieces one right behind the other.
func TestScanDrawn(t *testing.T) {
	r := rand.New(rand.NewSource(14))
	odd := []string{" ", "\t", "\n", "\r", ";", "#", "\xff", "\xe2\x82", "\xed\xa0\x80", "\x00", "^", "-(", "99999999999999", "-1099511627777", "<", ">", repeated("a", 23), repeated("\u00e9", 22)}
	for range 100000 {
		var b strings.Builder
		for range r.Intn(12) {
			if r.Intn(3) == 0 {
				b.WriteString(odd[r.Intn(len(odd))])
			} else {
				b.WriteString(Text(drawnToken(r)))
			}
		}
		wantAsTable(t, b.String())
		bytes := make([]byte, r.Intn(8))
		r.Read(bytes)
		wantAsTable(t, string(bytes))
	}
}
