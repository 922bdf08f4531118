package lex

import (
	"strconv"
	"strings"
	"testing"

	"intarsia/api"
)

// noUTF8 are bytes that are none, or too few of them.
func noUTF8() []string {
	return []string{"\x80", "\xbf", "\xc0\x80", "\xc1\xbf", "\xc3", "\xe2\x82", "\xe2", "\xf0\x9f\x98", "\xf0\x9f", "\xe0\x80\x80", "\xe0\x9f\xbf", "\xf0\x80\x80\x80", "\xf0\x8f\xbf\xbf", "\xed\xa0\x80", "\xed\xbf\xbf", "\xf4\x90\x80\x80", "\xf5\x80\x80\x80", "\xf8\x88\x80\x80\x80", "\xef\xbf", "\xef", "\xfe", "\xff"}
}

// names are runs, also such that are no symbols, or no values.
func names() []string {
	return []string{
		"x", "b", "Z", "0", "5", "-5", "+5", "007", "nil", "Nil", "-", "+", "--", "?", "!", "*", ".", "_", "a-b", "x1", "1x", "99999999999999", "-99999999999999", "1099511627777", strings.Repeat("9", 24), "literalize", "p",
		"\u0080", "\u00e9", "\u07ff", "\u0800", "\u20ac", "\ufffd", "\uffff", "\U00010000", "\U0001f600", "\U0010ffff", "a\u00e9b", "\u20ac-\u20ac", "\u2028", "x\ufffdy",
		repeated("a", 24), repeated("-", 24), repeated("\u00e9", 24), repeated("\u20ac", 24), repeated("\U0001f600", 24), repeated("a", 22) + "\u00e9", repeated("a", 21) + "\u20ac", repeated("a", 20) + "\U0001f600",
	}
}

// tooLong are runs of more than 24 bytes, most of them of fewer code points.
func tooLong() []string {
	return []string{
		repeated("a", 25), repeated("5", 25), repeated("0", 25), repeated("-", 25), repeated("a", 26), repeated("a", 48), repeated("a", 5000), repeated("\u00e9", 24) + "a", "a" + repeated("\u00e9", 24), repeated("\u20ac", 24) + "x", repeated("\u20ac", 27), repeated("\U0001f600", 24) + "-", repeated("\U0001f600", 28),
		repeated("a", 23) + "\u00e9", repeated("a", 22) + "\u20ac", repeated("a", 21) + "\U0001f600", repeated("\ufffd", 27), "nil" + repeated("l", 22),
	}
}

// P14.1: a name is any run, also a number, `nil`, a sign alone.
func TestNames(t *testing.T) {
	for _, name := range names() {
		n := len(name)
		wantTokens(t, "<"+name+">", vari(name, 0))
		wantTokens(t, "^"+name, attr(name, 0))
		wantTokens(t, "(<"+name+">^"+name+")", mk(Open, 0), vari(name, 1), attr(name, n+3), mk(Close, 2*n+4))
		wantTokens(t, "^"+name+"^"+name, attr(name, 0), attr(name, n+1))
		wantTokens(t, "<"+name+"><"+name+">", vari(name, 0), vari(name, n+2))
		wantTokens(t, "^"+name+">", attr(name, 0), pred(4, n+1))
		wantTokens(t, "^"+name+"<"+name+">", attr(name, 0), vari(name, n+1))
		wantTokens(t, "^"+name+";", attr(name, 0))
	}
}

// P14.1: `<` and a run without `>` is a Pred, and a Val behind it.
func TestVarWithoutEnd(t *testing.T) {
	for _, name := range []string{"x", "--", "\u20ac", repeated("a", 24), repeated("\u00e9", 24)} {
		n := len(name)
		wantTokens(t, "<"+name, pred(2, 0), symbol(name, 1))
		wantTokens(t, "<"+name+" >", pred(2, 0), symbol(name, 1), pred(4, n+2))
		wantTokens(t, "<"+name+"<"+name+">", pred(2, 0), symbol(name, 1), vari(name, n+1))
		wantTokens(t, "<"+name+"(", pred(2, 0), symbol(name, 1), mk(Open, n+1))
		wantWrong(t, "<"+name+"#>", n+1, pred(2, 0), symbol(name, 1))
	}
	wantTokens(t, "<nil", pred(2, 0), nothing(1))
	wantTokens(t, "<1099511627776", pred(2, 0), number(most, 1))
	wantWrong(t, "<1099511627777", 1, pred(2, 0))
	wantTokens(t, "<1099511627777>", vari("1099511627777", 0))
	wantWrong(t, "<\xff>", 1, pred(2, 0))
	wantWrong(t, "<#>", 1, pred(2, 0))
}

// P14.1: `^` without a run.
func TestAttrWithoutRun(t *testing.T) {
	for _, behind := range []string{"", " ", " b", "\tb", "\n", ";b", "^", "^b", "(", ")", "{", "}", "<", "<x>", "<<", ">", ">>", "=", "#", "\x00", "\x7f", "\xff", "\xc3", "\xe2\x82"} {
		wantWrong(t, "^"+behind, 0)
		wantWrong(t, "(\u00e9 ^"+behind, 4, mk(Open, 0), symbol("\u00e9", 1))
	}
}

// P14.1: runs of more than 24 bytes, of each kind of token.
func TestRunTooLong(t *testing.T) {
	for _, run := range tooLong() {
		wantWrong(t, run, 0)
		wantWrong(t, run+" b", 0)
		wantWrong(t, "(a "+run+")", 3, mk(Open, 0), symbol("a", 1))
		wantWrong(t, "^"+run, 0)
		wantWrong(t, "(^"+run+" b", 1, mk(Open, 0))
		wantWrong(t, "<"+run+">", 0)
		wantWrong(t, "(<"+run+">)", 1, mk(Open, 0))
		wantWrong(t, "<"+run, 1, pred(2, 0))
		wantWrong(t, "<"+run+" >", 1, pred(2, 0))
		wantWrong(t, "-(<=<"+run+">>", 4, mk(Not, 0), mk(Open, 1), pred(3, 2))
		wantWrong(t, "<<"+run+">>", 2, mk(Ones, 0))
		wantWrong(t, "-->"+run, 3, mk(Arrow, 0))
		wantWrong(t, run+"\xff", 0)
	}
}

// P14.1: bytes that are no UTF-8 end a run, within it and at its end.
func TestRunNoUTF8(t *testing.T) {
	for _, bad := range noUTF8() {
		wantWrong(t, bad, 0)
		wantWrong(t, bad+"a", 0)
		wantWrong(t, "ab"+bad, 2, symbol("ab", 0))
		wantWrong(t, "ab"+bad+"cd", 2, symbol("ab", 0))
		wantWrong(t, "\u20ac"+bad+"\u20ac", 3, symbol("\u20ac", 0))
		wantWrong(t, "\ufffd"+bad, 3, symbol("\ufffd", 0))
		wantWrong(t, repeated("a", 24)+bad, 24, symbol(repeated("a", 24), 0))
		wantWrong(t, "12"+bad, 2, number(12, 0))
		wantWrong(t, "nil"+bad, 3, nothing(0))
		wantWrong(t, "^ab"+bad+"c", 3, attr("ab", 0))
		wantWrong(t, "^"+bad, 0)
		wantWrong(t, "<ab"+bad+">", 3, pred(2, 0), symbol("ab", 1))
		wantWrong(t, "<"+bad+">", 1, pred(2, 0))
		wantWrong(t, "<ab>"+bad, 4, vari("ab", 0))
		wantWrong(t, " "+bad, 1)
		wantTokens(t, "a;"+bad+"\nb", symbol("a", 0), symbol("b", 3+len(bad)))
	}
}

// P14.1: each code point is one of a run, or it is not.
func TestRunPoints(t *testing.T) {
	for r := rune(0x80); r <= 0x10ffff; r++ {
		if 0xd800 <= r && r <= 0xdfff {
			continue
		}
		s := string(r)
		l, n, err := Scan(s + "^" + s)
		if len(l) != 2 || l[0] != symbol(s, 0) || l[1] != attr(s, len(s)) || n != 0 || err != api.OK {
			t.Fatalf("the code point %x: %#v, %d, %d", r, l, n, int(err))
		}
	}
}

// P14.1: all that begins as code points of three and of four bytes.
func TestRunEdgesOfUTF8(t *testing.T) {
	edges := []byte{'a', 0x7f, 0x80, 0x8f, 0x90, 0x9f, 0xa0, 0xbf, 0xc0, 0xff}
	for a := 0xc0; a <= 0xff; a++ {
		for _, b := range edges {
			wantAsTable(t, string([]byte{'x', byte(a), b}))
			for _, c := range edges {
				wantAsTable(t, string([]byte{'^', byte(a), b, c}))
				for _, d := range edges {
					wantAsTable(t, string([]byte{'<', byte(a), b, c, d, '>'}))
				}
			}
		}
	}
}

// P14.1: a Val is nothing, a symbol or a number.
func TestVals(t *testing.T) {
	wantTokens(t, "nil", nothing(0))
	wantTokens(t, "nil nil", nothing(0), nothing(4))
	for _, s := range []string{"-", "+", "--", "++", "-+", "+-1", "1-", "1.5", "-.5", ".", "*", "?", "!", "_", "a", "Nil", "NIL", "nil.", "-nil", "nill", "a-b", "x1", "1x", "1e5", "\u0661", "-\u0661", "1\u0661", "\uff11", "\u20ac", "\ufffd", repeated("a", 24), repeated("9", 23) + "x", "x" + repeated("9", 23)} {
		wantTokens(t, s, symbol(s, 0))
		wantTokens(t, "("+s+")", mk(Open, 0), symbol(s, 1), mk(Close, 1+len(s)))
	}
	for s, n := range map[string]int{"0": 0, "-0": 0, "+0": 0, "00": 0, "5": 5, "+5": 5, "-5": -5, "007": 7, "-007": -7, repeated("0", 24): 0, repeated("0", 23) + "7": 7, "+" + repeated("0", 10) + "1099511627776": most, "-" + repeated("0", 10) + "1099511627776": -most} {
		wantTokens(t, s, number(n, 0))
		wantTokens(t, s+")", number(n, 0), mk(Close, len(s)))
	}
	for _, s := range []string{"99999999999999", "-99999999999999", "9223372036854775807", "-9223372036854775808", "18446744073709551616", "18446744073709551621", repeated("9", 24), "-" + repeated("9", 23), "1" + repeated("0", 23)} {
		wantWrong(t, s, 0)
		wantWrong(t, "(a "+s+" b)", 3, mk(Open, 0), symbol("a", 1))
	}
}

// P14.1: numbers at both bounds, and beyond them.
func TestValBounds(t *testing.T) {
	for d := -20; d <= 20; d++ {
		digits := strconv.Itoa(most + d)
		for _, sign := range []string{"", "+", "-"} {
			n := most + d
			if sign == "-" {
				n = -n
			}
			if d <= 0 {
				wantTokens(t, "a "+sign+digits, symbol("a", 0), number(n, 2))
			} else {
				wantWrong(t, "a "+sign+digits, 2, symbol("a", 0))
			}
		}
	}
}
