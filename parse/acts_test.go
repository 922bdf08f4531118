package parse

import (
	"strings"
	"testing"

	"intarsia/api"
)

// P15.1: acts of each kind; the fields that a kind has not are zero.
func TestActs(t *testing.T) {
	five, x := items(constant(num(5))), items(variable("x"))
	for text, want := range map[string][]api.Act{
		"(make a)":                       acts(madeOf("a")),
		"(make a ^b 5 ^c <x>)":           acts(madeOf("a", set("b", five...), set("c", x...))),
		"(make a ^b 5 ^b 5)":             acts(madeOf("a", set("b", five...), set("b", five...))),
		"(make make ^make make)":         acts(madeOf("make", set("make", constant(sym("make"))))),
		"(modify 1)":                     acts(modify(1)),
		"(modify 3 ^b 5)":                acts(modify(3, set("b", five...))),
		"(modify 3 ^b <x> ^c (- <x> 5))": acts(modify(3, set("b", x...), set("c", variable("x"), constant(num(5)), op(3)))),
		"(remove 2)":                     acts(remove(2)),
		"(bind <x> 5)":                   acts(bind("x", five...)),
		"(bind <y> <x>)":                 acts(bind("y", x...)),
		"(bind <y>(* 5 <x>))":            acts(bind("y", constant(num(5)), variable("x"), op(4))),
		"(write)":                        acts(write()),
		"(write 5)":                      acts(write(five)),
		"(write <x> 5 (+ 5 5) <x>)":      acts(write(x, five, items(constant(num(5)), constant(num(5)), op(2)), x)),
		"(halt)":                         acts(halt()),
		"(halt)(halt)(make a)(remove 1)(write)(modify 1)(bind <x> 5)(halt)": acts(halt(), halt(), madeOf("a"), remove(1), write(), modify(1), bind("x", five...), halt()),
	} {
		wantProgram(t, acting(text), actingProgram(want...))
	}
}

// P15.1: what a modify and a remove are of is a Number, whichever.
func TestActNumbers(t *testing.T) {
	for text, n := range map[string]int{"0": 0, "1": 1, "-1": -1, "+5": 5, "-0": 0, "007": 7, "1099511627776": most, "-1099511627776": -most, "1099511627775": most - 1} {
		wantProgram(t, acting("(modify "+text+")(remove "+text+")"), actingProgram(modify(n), remove(n)))
		wantProgram(t, acting("(modify "+text+" ^b 5)"), actingProgram(modify(n, set("b", constant(num(5))))))
	}
	wantError(t, api.ErrLex, acting("(remove 1099511627777)"), acting("(modify -1099511627777)"))
	for _, x := range []string{"", "a", "nil", "-", "+", "<x>", "^b", "=", "(1)", "(+ 1 1)", "{1}", "<<1>>", "1 2", "1 a", "1 <x>", "1 (halt)", "-->"} {
		wantError(t, api.ErrParse, acting("(modify "+x+")"), acting("(remove "+x+")"), acting("(modify "+x+" ^b 5 )"))
	}
	wantError(t, api.ErrParse, acting("(remove 1 ^b 5)"), acting("(remove ^b 5)"), acting("(modify ^b 5)"), acting("(modify 1 a ^b 5)"))
}

// P15.1: sets are Attrs with an expression each.
func TestSets(t *testing.T) {
	for _, x := range []string{"^b", "^b ^c 5", "^b 5 ^c", "^b 5 6", "5", "<x>", "b 5", "^b 5 c", "^b > 5", "^b = 5", "^b {5}", "^b << 5 >>", "^b ()", "^b (5)", "^b (a)", "^b (halt)", "(^b 5)", "{^b 5}", "^b 5 )", "(", "^b -->", "^b -(+ 1 2)"} {
		wantError(t, api.ErrParse, acting("(make a "+x+")"), acting("(modify 1 "+x+")"), acting("(modify 1 ^a 1 "+x+")"))
	}
	wantProgram(t, acting("(make a^b - ^c -5)"), actingProgram(madeOf("a", set("b", constant(sym("-"))), set("c", constant(num(-5))))))
}

// P15.1: a bind has a Var and one expression.
func TestBinds(t *testing.T) {
	for _, x := range []string{"", "<x>", "x 5", "5 5", "nil 5", "^x 5", "5", "x", "(<x>) 5", "{<x>} 5", "<x> 5 6", "<x> <y> <z>", "<x> 5 )", "<x> ^b 5", "<x> > 5", "<x> = <y>", "<x> ()", "<x> (5)", "<x> {5}", "<x> << 5 >>", "<x> 5 (halt)", "= <x> 5", "<x> -->"} {
		wantError(t, api.ErrParse, acting("(bind "+x+")"), acting("(halt) (bind "+x+") (halt)"))
	}
}

// P15.1: a write has up to 8 expressions, or none.
func TestWrites(t *testing.T) {
	var l [][]api.Item
	for n := range 10 {
		text := acting("(write" + strings.Repeat(" <x>", n) + ")")
		if n <= 8 {
			wantProgram(t, text, actingProgram(write(l...)))
		} else {
			wantError(t, api.ErrLimit, text)
		}
		l = append(l, items(variable("x")))
	}
	wantRead(t, acting("(write"+strings.Repeat("(+ 1 1)", 8)+")"))
	wantError(t, api.ErrLimit, acting("(write"+strings.Repeat("(+ 1 1)", 9)+")"))
	for _, x := range []string{"^b", "^b 5", "=", "5 > 6", "{5}", "<<5>>", "()", "(5)", "(halt)", "-(+ 1 2)", "-->", ")", "("} {
		wantError(t, api.ErrParse, acting("(write "+x+")"), acting("(write 1 "+x+" <x>)"))
	}
}

// P15.1: a halt has nothing, and other names are no act's.
func TestHaltsAndOthers(t *testing.T) {
	for _, x := range []string{"5", "a", "nil", "<x>", "^b", "^b 5", "(halt)", "()", "=", "halt", "-->", "-("} {
		wantError(t, api.ErrParse, acting("(halt "+x+")"))
	}
	for _, x := range []string{"()", "(a)", "(foo 1)", "(p)", "(literalize a b)", "(Make a)", "(MAKE a)", "(makes a)", "(mak a)", "(retract 1)", "(removed 1)", "(5)", "(nil)", "(<x>)", "(^make a)", "(+ 1 2)", "(= 1)", "halt", "5", "<x>", "^b 5", "{halt}", "{(halt)}", "<<halt>>", "-(halt)", "((halt))", "(halt", "halt)", "(halt))", "(-->)", "-->", "(make a", "(write", "(write 5", "(bind <x> 5", "(remove 1", "(modify 1", "(modify 1 ^b 5"} {
		wantError(t, api.ErrParse, acting(x), acting("(halt)"+x), acting(x+" (halt)"))
	}
}
