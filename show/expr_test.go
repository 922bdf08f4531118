package show

import (
	"slices"
	"strings"
	"testing"

	"intarsia/api"
)

// The chapter's example, and that of its package api's names.
func TestExampleExpr(t *testing.T) {
	wantExpr(t, items(number(1), variableOf("x"), op(2)), "(+ 1 <x>)")
	wantExpr(t, items(number(1), variableOf("x"), op(api.Plus)), "(+ 1 <x>)")
}

// P16.1: one Constant, one Variable.
func TestOne(t *testing.T) {
	wantExpr(t, items(op(0)), "nil")
	for v, want := range map[api.Value]string{
		{}: "nil", num(0): "0", num(7): "7", num(-7): "-7", num(most): "1099511627776", num(-most): "-1099511627776",
		sym("a"): "a", sym("a-b"): "a-b", sym("+"): "+", sym("-"): "-", sym("é"): "é", sym("abcdefghijklmnopqrstuvwx"): "abcdefghijklmnopqrstuvwx",
	} {
		wantExpr(t, items(constant(v)), want)
	}
	for name, want := range map[string]string{"x": "<x>", "": "<>", "12": "<12>", "nil": "<nil>", "a b": "<a b>", "<": "<<>", "\xff": "<\xff>", strings.Repeat("x", 30): "<" + strings.Repeat("x", 30) + ">"} {
		wantExpr(t, items(variableOf(name)), want)
	}
}

// P16.1: a value that may not be has the text that value.Text tells of it.
func TestNoValues(t *testing.T) {
	for _, v := range noValues() {
		wantExpr(t, items(constant(v)), "nil")
		wantExpr(t, items(constant(v), number(2), op(3)), "(- nil 2)")
		wantExpr(t, items(number(2), constant(v), op(3)), "(- 2 nil)")
	}
}

// P16.1: what an item's kind doesn't ask for is passed over.
func TestOtherFields(t *testing.T) {
	wantExpr(t, items(api.Item{Kind: 0, Val: num(5), Var: "x"}), "5")
	wantExpr(t, items(api.Item{Kind: 1, Val: num(5), Var: "x"}), "<x>")
	wantExpr(t, items(api.Item{Kind: 1, Val: num(5)}), "<>")
	for kind, sign := range map[uint8]string{2: "+", 3: "-", 4: "*"} {
		wantExpr(t, items(number(1), number(2), api.Item{Kind: kind, Val: sym("y"), Var: "x"}), "("+sign+" 1 2)")
	}
}

// P16.1: each sign, its two texts in their order.
func TestSigns(t *testing.T) {
	for kind, sign := range map[uint8]string{api.Plus: "+", api.Minus: "-", api.Times: "*"} {
		wantExpr(t, items(number(1), number(2), op(kind)), "("+sign+" 1 2)")
		wantExpr(t, items(number(2), number(1), op(kind)), "("+sign+" 2 1)")
		wantExpr(t, items(variableOf("x"), variableOf("x"), op(kind)), "("+sign+" <x> <x>)")
		wantExpr(t, items(variableOf(""), constant(sym(sign)), op(kind)), "("+sign+" <> "+sign+")")
		wantExpr(t, items(constant(api.Value{}), number(-3), op(kind)), "("+sign+" nil -3)")
	}
}

// P16.1: signs within signs.
func TestWithin(t *testing.T) {
	a, b, c, d := variableOf("a"), number(2), constant(sym("c")), number(-4)
	wantExpr(t, items(a, b, op(2), c, op(3)), "(- (+ <a> 2) c)")
	wantExpr(t, items(a, b, c, op(2), op(3)), "(- <a> (+ 2 c))")
	wantExpr(t, items(a, b, op(2), c, d, op(3), op(4)), "(* (+ <a> 2) (- c -4))")
	wantExpr(t, items(a, b, op(2), c, op(3), d, op(4)), "(* (- (+ <a> 2) c) -4)")
	wantExpr(t, items(a, b, c, d, op(2), op(3), op(4)), "(* <a> (- 2 (+ c -4)))")
	wantExpr(t, items(a, b, c, op(2), op(3), d, op(4)), "(* (- <a> (+ 2 c)) -4)")
	wantExpr(t, items(a, b, c, op(2), d, op(3), op(4)), "(* <a> (- (+ 2 c) -4))")
	wantExpr(t, items(a, b, op(2), a, b, op(2), op(2), a, b, op(2), a, b, op(2), op(2), op(2)),
		"(+ (+ (+ <a> 2) (+ <a> 2)) (+ (+ <a> 2) (+ <a> 2)))")
}

// repeated are so many pieces, one behind the other.
func repeated(n int, piece ...api.Item) []api.Item {
	return slices.Repeat(piece, n)
}

// P16.1: signs within many signs, to the left, to the right and to both; more
// than a program may have, too.
func TestDeep(t *testing.T) {
	for _, n := range []int{1, 2, 8, 9, 40, 300} {
		wantExpr(t, append(items(number(1)), repeated(n, variableOf("x"), op(3))...), strings.Repeat("(- ", n)+"1"+strings.Repeat(" <x>)", n))
		wantExpr(t, append(append(repeated(n, variableOf("x")), number(1)), repeated(n, op(4))...), strings.Repeat("(* <x> ", n)+"1"+strings.Repeat(")", n))
		both := append(append(repeated(n, variableOf("x")), number(1)), repeated(n, op(2), number(-2), op(3))...)
		wantExpr(t, both, strings.Repeat("(- (+ <x> ", n)+"1"+strings.Repeat(") -2)", n))
	}
}

// Rule 1: an expression of very many signs ends soon, and needs no pile of calls.
func TestVeryDeep(t *testing.T) {
	n := 1 << 20
	left := slices.Concat(items(number(1)), repeated(n, number(2), op(2)), items(op(0)))
	if s, ok := Expr(left[:2*n+1]); !ok || s != strings.Repeat("(+ ", n)+"1"+strings.Repeat(" 2)", n) {
		t.Errorf("to the left: %d bytes, %v", len(s), ok)
	}
	if s, ok := Expr(left); ok || s != "" {
		t.Errorf("a text more: %d bytes, %v", len(s), ok)
	}
	right := slices.Concat(repeated(n, number(2)), items(number(1)), repeated(n+1, op(2)))
	if s, ok := Expr(right[:2*n+1]); !ok || s != strings.Repeat("(+ 2 ", n)+"1"+strings.Repeat(")", n) {
		t.Errorf("to the right: %d bytes, %v", len(s), ok)
	}
	if s, ok := Expr(right); ok || s != "" {
		t.Errorf("a sign more: %d bytes, %v", len(s), ok)
	}
}

// P16.1: no items, a sign that finds none, or just one text.
func TestTooFew(t *testing.T) {
	wantNone(t)
	wantNone(t, []api.Item{}...)
	wantNone(t, items(number(1), number(2), op(2))[:0]...)
	for kind := uint8(2); kind < 5; kind++ {
		wantNone(t, op(kind))
		wantNone(t, op(kind), op(kind))
		wantNone(t, number(1), op(kind))
		wantNone(t, op(kind), number(1))
		wantNone(t, op(kind), number(1), number(2))
		wantNone(t, number(1), op(kind), number(2))
		wantNone(t, variableOf("x"), op(kind), variableOf("y"), op(kind))
		wantNone(t, number(1), number(2), op(2), op(kind))
		wantNone(t, number(1), number(2), op(2), op(kind), number(3), op(2))
		wantNone(t, op(kind), number(1), number(2), op(2))
	}
}

// P16.1: items that leave two texts, or more.
func TestTooMany(t *testing.T) {
	wantNone(t, number(1), number(2))
	wantNone(t, number(1), variableOf("x"))
	wantNone(t, variableOf(""), variableOf(""))
	wantNone(t, number(1), number(2), number(3))
	wantNone(t, number(1), number(2), number(3), op(2))
	wantNone(t, number(1), number(2), op(2), number(3))
	wantNone(t, number(1), number(2), op(2), number(3), number(4), op(2))
}

// P16.1: items of another kind, wherever they stand.
func TestOtherKinds(t *testing.T) {
	right := items(number(1), variableOf("x"), op(2))
	for kind := 5; kind < 256; kind++ {
		x := api.Item{Kind: uint8(kind), Val: num(1), Var: "x"}
		wantNone(t, x)
		wantNone(t, x, x)
		wantNone(t, number(1), number(2), x)
		for at := range len(right) + 1 {
			wantNone(t, append(append(append([]api.Item{}, right[:at]...), x), right[at:]...)...)
		}
	}
}

// P16.1: all short rows of items are as a pile of texts tells.
func TestShortRows(t *testing.T) {
	all := items(number(1), variableOf("x"), op(2), op(3), op(4), op(5))
	told := 0
	var rows func(l []api.Item)
	rows = func(l []api.Item) {
		s, ok := Expr(l)
		if want, is := pileText(l); s != want || ok != is {
			t.Fatalf("Expr(%s) = %q, %v; want %q, %v", short(l), s, ok, want, is)
		}
		if ok {
			told++
		}
		if len(l) == 7 {
			return
		}
		for _, x := range all {
			rows(append(l[:len(l):len(l)], x))
		}
	}
	rows(nil)
	if want := 2 + 4*3 + 2*8*9 + 5*16*27; told != want { // by Catalan's numbers
		t.Errorf("%d rows are expressions; want %d", told, want)
	}
}
