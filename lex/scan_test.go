package lex

import (
	"slices"
	"strings"
	"testing"

	"intarsia/api"
)

// The kinds' numbers, which the chapter tells by their order.
func TestKinds(t *testing.T) {
	kinds := []uint8{Open, Close, Brace, Unbrace, Ones, Unones, Arrow, Not, Attr, Var, Pred, Val}
	for i, k := range kinds {
		if int(k) != i {
			t.Errorf("kind %d is %d", i, k)
		}
	}
}

// The chapter's example.
func TestExample(t *testing.T) {
	wantTokens(t, "(a ^b <x> > 5) -(c)",
		mk(Open, 0), symbol("a", 1), attr("b", 3), vari("x", 6), pred(4, 10), number(5, 12), mk(Close, 13), mk(Not, 15), mk(Open, 16), symbol("c", 17), mk(Close, 18))
}

// P14.1: no byte, and no token.
func TestScanEmpty(t *testing.T) {
	wantTokens(t, "")
}

// P14.1: as many bytes as there may be, and one more, whatever they are.
func TestScanLength(t *testing.T) {
	for _, c := range []string{" ", ";", "\n", "a", "(", "<", "#", "\x00", "\xff", "\u00e9", "a ", "<x>", "^b", "a;\n", "-(", ">>", " ;"} {
		for size := maxText - 3; size <= maxText; size++ {
			wantAsTable(t, repeated(c, size))
		}
		for _, size := range []int{maxText + 1, maxText + 2, 2 * maxText, 1 << 20} {
			wantScan(t, repeated(c, size), nil, 0, api.ErrLong)
		}
	}
	wantTokens(t, repeated(" ", maxText))
	wantTokens(t, repeated(" ", maxText-1)+"(", mk(Open, maxText-1))
	wantTokens(t, repeated(" ", maxText-4)+"<xy>", vari("xy", maxText-4))
	wantTokens(t, repeated(";", maxText-4)+"\nnil", nothing(maxText-3))
	wantWrong(t, repeated(" ", maxText-1)+"#", maxText-1)
	wantWrong(t, "a"+repeated(" ", maxText-2)+"^", maxText-1, symbol("a", 0))
	if l, n, err := Scan(repeated("(", maxText)); len(l) != maxText || n != 0 || err != api.OK || l[maxText-1] != mk(Open, maxText-1) {
		t.Errorf("%d tokens, %d, %d", len(l), n, int(err))
	}
}

// P14.1: each byte alone, and behind each of some others.
func TestScanBytes(t *testing.T) {
	marks := map[string]Token{
		"(": mk(Open, 0), ")": mk(Close, 0), "{": mk(Brace, 0), "}": mk(Unbrace, 0),
		"<": pred(2, 0), ">": pred(4, 0), "=": pred(0, 0),
	}
	for c := range 256 {
		s := string([]byte{byte(c)})
		mark, isMark := marks[s]
		switch {
		case isMark:
			wantTokens(t, s, mark)
		case c < 0x80 && strings.Contains(" \t\n\r;", s):
			wantTokens(t, s)
		case '0' <= c && c <= '9':
			wantTokens(t, s, number(c-'0', 0))
		case 'a' <= c && c <= 'z', 'A' <= c && c <= 'Z', c < 0x80 && strings.Contains("_-?!+*.", s):
			wantTokens(t, s, symbol(s, 0))
		default:
			wantWrong(t, s, 0)
			wantWrong(t, "a"+s, 1, symbol("a", 0))
			wantWrong(t, "(\u20ac "+s+" b", 5, mk(Open, 0), symbol("\u20ac", 1))
		}
		wantAsTable(t, "a"+s+"b")
		wantAsTable(t, "<"+s+">")
		wantAsTable(t, "<a"+s+">")
		wantAsTable(t, "^"+s)
		wantAsTable(t, "-"+s)
		wantAsTable(t, s+s)
	}
}

// P14.1: white of each sort, alone, ahead of a token, behind it, and between.
func TestScanWhite(t *testing.T) {
	for _, w := range []string{
		" ", "\t", "\n", "\r", "\r\n", "  ", " \t\r\n", ";\n", "; all\n", ";(a ^b <x>)\n", ";;\n", "; a ; b\n", ";\r\n", ";a\rb\n", ";\n;\n", ";a\n ;b\n\t", "\n;\n",
		";\xff\xfe\n", ";\xc3\n", ";\xe2\x82\n", ";\u20ac\n", ";\x00\n", ";#\"\x7f\n",
	} {
		wantTokens(t, w)
		wantTokens(t, w+"a", symbol("a", len(w)))
		wantTokens(t, "a"+w, symbol("a", 0))
		wantTokens(t, "a"+w+"b", symbol("a", 0), symbol("b", 1+len(w)))
		wantTokens(t, w+"("+w+w+")"+w, mk(Open, len(w)), mk(Close, 1+3*len(w)))
		wantTokens(t, w+"<"+w+"x"+w+">", pred(2, len(w)), symbol("x", 1+2*len(w)), pred(4, 2+3*len(w)))
		wantTokens(t, "-"+w+"(", symbol("-", 0), mk(Open, 1+len(w)))
		wantWrong(t, "a"+w+"^"+w+"b", 1+len(w), symbol("a", 0))
		wantWrong(t, w+"#", len(w))
	}
}

// P14.1: a remark up to the end; no other byte than a line end ends it.
func TestScanRemarkToEnd(t *testing.T) {
	for _, w := range []string{";", "; all", ";\r", ";a\rb", ";;", ";\t(", "\n;", ";\n;", ";\xff", ";\xc3", ";\xe2\x82", ";\u20ac", ";\u2028a", ";\u0085a", ";\x00a", ";\x0b\x0ca", "; (a) ; (b)"} {
		wantTokens(t, w)
		wantTokens(t, "a"+w, symbol("a", 0))
		wantTokens(t, "(<x>"+w, mk(Open, 0), vari("x", 1))
	}
	wantTokens(t, "a;b\nc;d", symbol("a", 0), symbol("c", 4))
	wantTokens(t, "<a;>\n>", pred(2, 0), symbol("a", 1), pred(4, 5))
	wantTokens(t, "<;\n<", pred(2, 0), pred(2, 3))
	wantTokens(t, "--;\n>", symbol("--", 0), pred(4, 4))
}

// P14.1: other bytes below 21 (hex), and code points that are white elsewhere.
func TestScanNoWhite(t *testing.T) {
	for c := range 0x21 {
		s := string([]byte{byte(c)})
		if strings.Contains(" \t\n\r", s) {
			wantTokens(t, "a"+s+"b", symbol("a", 0), symbol("b", 2))
			continue
		}
		wantWrong(t, s, 0)
		wantWrong(t, " \t\n\r"+s, 4)
		wantWrong(t, "a"+s+"b", 1, symbol("a", 0))
	}
	for _, s := range []string{"\u0085", "\u00a0", "\u2028", "\u2029", "\u3000", "\ufeff"} {
		wantTokens(t, "a"+s+"b", symbol("a"+s+"b", 0))
	}
	wantWrong(t, "\x7f", 0)
}

// P14.1: the places count bytes, also behind code points of several bytes and
// behind white; a fault's place is where its token would begin.
func TestScanPlaces(t *testing.T) {
	wantTokens(t, " \u00e9 \u20ac\n\U0001f600(", symbol("\u00e9", 1), symbol("\u20ac", 4), symbol("\U0001f600", 8), mk(Open, 12))
	wantTokens(t, "^\u20ac<\u00e9>(", attr("\u20ac", 0), vari("\u00e9", 4), mk(Open, 8))
	wantTokens(t, "; \U0001f600\n\r\n a", symbol("a", 10))
	wantWrong(t, "\u20ac #", 4, symbol("\u20ac", 0))
	wantWrong(t, "\U0001f600\xff", 4, symbol("\U0001f600", 0))
	wantWrong(t, "; \u20ac\n <\u00e9> ^", 12, vari("\u00e9", 7))
	wantWrong(t, " \u00e9 -99999999999999", 4, symbol("\u00e9", 1))
	wantWrong(t, "\u20ac<"+repeated("a", 25)+">", 3, symbol("\u20ac", 0))
	wantWrong(t, "\u20ac ^"+repeated("a", 25)+" b", 4, symbol("\u20ac", 0))
	wantWrong(t, "# #", 0)
	wantWrong(t, "a # b # c", 2, symbol("a", 0))
}

// Rule 3: an answer is new memory, and its spare room, too.
func TestScanNewMemory(t *testing.T) {
	for _, text := range []string{"(a ^b)", "(a ^b #", "a b c", "nil"} {
		first, n, err := Scan(text)
		kept := slices.Clone(first)
		full := first[:cap(first)]
		for i := range full {
			full[i] = Token{Kind: 77, Name: "no", Pred: 7, At: -1}
		}
		wantScan(t, text, kept, n, err)
	}
}
