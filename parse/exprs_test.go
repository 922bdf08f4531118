package parse

import (
	"strings"
	"testing"

	"intarsia/api"
)

// P15.1: a Val, also one that is a sign, and a Var.
func TestSimpleExprs(t *testing.T) {
	for text, v := range values() {
		wantProgram(t, reckoned(text), reckonedProgram(constant(v)))
		wantProgram(t, acting("(write "+text+" "+text+" )"), actingProgram(write(items(constant(v)), items(constant(v)))))
		wantProgram(t, acting("(make a ^b "+text+" )"), actingProgram(madeOf("a", set("b", constant(v)))))
	}
	wantProgram(t, reckoned("<x>"), reckonedProgram(variable("x")))
	wantProgram(t, reckoned("<z>"), reckonedProgram(variable("z")))
}

// P15.1: each sign, its items in their order.
func TestSums(t *testing.T) {
	a, b, x := constant(sym("a")), constant(num(2)), variable("x")
	for sign, kind := range map[string]uint8{"+": 2, "-": 3, "*": 4} {
		for text, want := range map[string][]api.Item{
			"(S a 2)":               items(a, b, op(kind)),
			"(S 2 a)":               items(b, a, op(kind)),
			"( S <x>2 )":            items(x, b, op(kind)),
			"(S 2 <x>)":             items(b, x, op(kind)),
			"(S (S a 2) <x>)":       items(a, b, op(kind), x, op(kind)),
			"(S <x>(S a 2))":        items(x, a, b, op(kind), op(kind)),
			"(S (S a 2)(S <x> a))":  items(a, b, op(kind), x, a, op(kind), op(kind)),
			"(S (* a 2)(+ <x> a))":  items(a, b, op(4), x, a, op(2), op(kind)),
			"(+ (S a 2)(* <x> a))":  items(a, b, op(kind), x, a, op(4), op(2)),
			"(S (- a (S 2 a)) <x>)": items(a, b, a, op(kind), op(3), x, op(kind)),
		} {
			wantProgram(t, reckoned(strings.ReplaceAll(text, "S", sign)), reckonedProgram(want...))
		}
	}
	wantProgram(t, reckoned("(+ + - )"), reckonedProgram(constant(sym("+")), constant(sym("-")), op(2)))
	wantProgram(t, reckoned("(- - -)"), reckonedProgram(constant(sym("-")), constant(sym("-")), op(3)))
	wantProgram(t, reckoned("(* - (+ 1 nil))"), reckonedProgram(constant(sym("-")), constant(num(1)), constant(api.Value{}), op(2), op(4)))
}

// P15.1: one, none and three expressions behind a sign, other signs, and none.
func TestWrongExprs(t *testing.T) {
	for _, x := range []string{"()", "(5)", "(<x>)", "(+)", "(+ 1)", "(- 1)", "(* <x>)", "(+ 1 2 3)", "(- <x> <y> <z>)", "(+ 1 2", "+ 1 2)", "(+ 1 2))", "((+ 1 2))", "(1 + 2)", "(1 2 +)", "(. 1 2)", "(div 1 2)", "(++ 1 2)", "(-- 1 2)", "(+1 2)", "(+1 2 3)", "(nil 1 2)", "(5 1 2)", "(<x> 1 2)", "(^b 1 2)", "(= 1 2)", "(> 1 2)",
		"(a 1 2)", "{+ 1 2}", "(+ {1} 2)", "(+ 1 {2})", "(+ << 1 >> 2)", "(+ ^b 2)", "(+ 1 ^b)", "(+ > 1 2)", "(+ 1 > 2)", "(+ 1 -->)", "(+ () 2)", "(+ 1 ())", "(+ (1) 2)", "(+ 1 (2))", "(+ (+ 1) 2)", "(+ 1 (+ 2 3 4))", "(-(+ 1 2) 3)", "(+ -(+ 1 2) 3)", "-(+ 1 2)", "(+ 1 (halt))", "^b", "=", "> 5", "{5}", "<< 5 >>", "-->", ""} {
		wantError(t, api.ErrParse, reckoned(x), acting("(make a ^b "+x+")"), acting("(modify 1 ^b 5 ^c "+x+")"))
		if x != "" {
			wantError(t, api.ErrParse, acting("(write "+x+")"), acting("(write 1 "+x+" 2)"))
		}
	}
}

// nested tells an expression within which another one stands so deep, to the
// left or to the right, and its items.
func nested(depth int, left bool) (string, []api.Item) {
	text, l := "<x>", items(variable("x"))
	for i := range depth {
		sign, kind := "+-*"[i%3:i%3+1], uint8(2+i%3)
		if left {
			text, l = "("+sign+" "+text+" 7)", append(l, constant(num(7)), op(kind))
		} else {
			text, l = "("+sign+" 7 "+text+")", append(append(items(constant(num(7))), l...), op(kind))
		}
	}
	return text, l
}

// P15.1: expressions within 8 others may be, within 9 not: to the left and to the
// right, in each act that has some.
func TestNests(t *testing.T) {
	for _, left := range []bool{true, false} {
		for depth := range 12 {
			text, l := nested(depth, left)
			texts := map[string]api.Act{"(bind <z> X)": bind("z", l...), "(write X)": write(l), "(write 7 X)": write(items(constant(num(7))), l), "(make a ^b X)": madeOf("a", set("b", l...)), "(modify 1 ^a <x> ^b X)": modify(1, set("a", variable("x")), set("b", l...))}
			for with, act := range texts {
				if text := acting(strings.ReplaceAll(with, "X", text)); depth <= 8 {
					wantProgram(t, text, actingProgram(act))
				} else {
					wantError(t, api.ErrLimit, text)
				}
			}
		}
	}
}

// P15.1: how deep an expression stands is asked of each anew.
func TestNestsBeside(t *testing.T) {
	left, _ := nested(8, true)
	right, _ := nested(8, false)
	wantRead(t, acting("(write "+left+right+left+right+")"), acting("(bind <z>"+left+")(bind <z>"+right+")"), acting("(make a ^b"+left+"^c"+right+")"))
	seven, _ := nested(7, true)
	wantRead(t, reckoned("(+ "+seven+seven+")"))
	wantError(t, api.ErrLimit, reckoned("(+ "+seven+left+")"), reckoned("(+ "+left+seven+")"), acting("(write (+ "+left+"1) 2)"), acting("(write 1) (write (+ 1 "+right+")) (write 2)"))
	full := "<x>"
	for range 8 {
		full = "(* " + full + full + ")"
	}
	wantRead(t, reckoned(full))
	wantError(t, api.ErrLimit, reckoned("(+ "+full+"1)"))
}

// P15.1: however deep, no call panics.
func TestNestsFar(t *testing.T) {
	for _, left := range []bool{true, false} {
		text, _ := nested(2700, left)
		wantError(t, api.ErrLimit, reckoned(text))
		wantError(t, api.ErrParse, reckoned(text[1:]), reckoned(text+")"), reckoned(text[:len(text)-1]))
	}
	wantError(t, api.ErrParse, reckoned(strings.Repeat("(+", 8100)), strings.Repeat("(", maxText), strings.Repeat(")", maxText), strings.Repeat("-(", maxText/2), acting(strings.Repeat("(", 16000)), ruled(strings.Repeat("(a ^b", 3000), ""), asked(strings.Repeat("{", 16000)))
}
