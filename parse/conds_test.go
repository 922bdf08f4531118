package parse

import (
	"strings"
	"testing"

	"intarsia/api"
)

// values are what may stand as a Val, by their texts.
func values() map[string]api.Value {
	return map[string]api.Value{"nil": {}, "0": num(0), "-7": num(-7), "+007": num(7), "1099511627776": num(most), "-1099511627776": num(-most), "a": sym("a"), "-": sym("-"), "+": sym("+"), "*": sym("*"), "\u00e9": sym("\u00e9"), "p": sym("p")}
}

// noVals are what is no Val.
func noVals() []string {
	return []string{"<x>", "^b", "=", ">", "<>", "(", ")", "(+ 1 2)", "{", "}", "{5}", "<<", "<< 5 >>", "-->", "-("}
}

// P15.1: conditions with a Not and without; without attributes, with several.
func TestConds(t *testing.T) {
	five := func(attr string) api.AttrTest { return tests(attr, ofVal(0, num(5))) }
	for text, want := range map[string][]api.Cond{
		"(a)":                       conds(cond("a")),
		"-(a)":                      conds(negated("a")),
		"(a)-(a)(b)-(b)-(c)":        conds(cond("a"), negated("a"), cond("b"), negated("b"), negated("c")),
		"-( a ^b 5 )":               conds(negated("a", five("b"))),
		"(a ^b 5 ^c 5 ^b 5)":        conds(cond("a", five("b"), five("c"), five("b"))),
		"(a^b 5^c 5)(a)(d^b 5)":     conds(cond("a", five("b"), five("c")), cond("a"), cond("d", five("b"))),
		"(a ^b << 5 >> ^c { 5 })":   conds(cond("a", one("b", num(5)), five("c"))),
		"(a) ; (b)\n -(c ^d 5;)\n)": conds(cond("a"), negated("c", five("d"))),
	} {
		wantProgram(t, ruled(text, ""), rules(rule("r", want, nil)))
	}
}

// P15.1: what is no condition.
func TestWrongConds(t *testing.T) {
	for _, text := range []string{"()", "-()", "- (a)", "-", "-a", "--(a)", "- -(a)", "-(-(a))", "((a))", "-\n(a)", "-;\n(a)", "{a}", "a", "<x>", "{(a)}", "{<x> (a)}", "(a b)", "(a 5)", "(a <x>)", "(a ^b)", "(a ^b ^c 5)", "(a ^b 5 6)", "(a ^b 5 c)", "(a ^b 5 <x>)", "(a 5 ^b)",
		"(^b 5)", "(a ^b 5", "a ^b 5)", "(a ^b 5))", "(a (b))", "(a -(b))", "(a = ^b 5)", "(a ^b 5 =)"} {
		wantError(t, api.ErrParse, ruled(text, ""), ruled("(a) "+text, ""), ruled(text+" (a)", ""), ruled(text, "(halt)"))
	}
}

// P15.1: Ones are Vals alone, some of them.
func TestOnes(t *testing.T) {
	for text, v := range values() {
		wantProgram(t, asked("<< "+text+" >>"), askedProgram(one("b", v)))
		wantProgram(t, asked("<< 1 "+text+" x>>"), askedProgram(one("b", num(1), v, sym("x"))))
	}
	wantProgram(t, asked("<<a a a>> ^c <<b>>"), rules(rule("r", conds(cond("a", one("b", sym("a"), sym("a"), sym("a")), one("c", sym("b")))), nil)))
	wantProgram(t, asked("<< 1 2 3 4 5 6 7 8 >>"), askedProgram(one("b", num(1), num(2), num(3), num(4), num(5), num(6), num(7), num(8))))
	wantError(t, api.ErrLimit, asked("<< 1 2 3 4 5 6 7 8 9 >>"))
	wantError(t, api.ErrParse, asked("<< >>"), asked("<<>>"), asked("<< 1"), asked("1 >>"), asked("<<"), asked(">>"), asked(">> 1 <<"), asked("<< 1 } "), asked("<< 1 )"), asked("<< 1 >> 2"), asked("<< 1 >> >>"), asked("<< 1 >> << 2 >>"), asked("= << 1 >>"), asked("<> << 1 >>"))
	for _, x := range noVals() {
		wantError(t, api.ErrParse, asked("<< "+x+" >>"), asked("<< 1 "+x+" >>"), asked("<< "+x+" 1 >>"))
	}
}

// P15.1: a single test has a Pred, or Is, and a Var or a Val.
func TestSingles(t *testing.T) {
	preds := map[string]uint8{"": 0, "=": 0, "<>": 1, "<": 2, "<=": 3, ">": 4, ">=": 5}
	for sign, pred := range preds {
		for text, v := range values() {
			wantProgram(t, asked(sign+" "+text), askedProgram(tests("b", ofVal(pred, v))))
			wantProgram(t, asked("{ "+sign+" "+text+" }"), askedProgram(tests("b", ofVal(pred, v))))
		}
		wantProgram(t, asked(sign+" <x>"), askedProgram(tests("b", ofVar(pred, "x"))))
		wantProgram(t, asked("{"+sign+" <x> "+sign+" 5 6 <y>}"), askedProgram(tests("b", ofVar(pred, "x"), ofVal(pred, num(5)), ofVal(0, num(6)), ofVar(0, "y"))))
		if sign == "" {
			continue
		}
		wantError(t, api.ErrParse, asked(sign), asked("{"+sign+"}"), asked("{5 "+sign+" }"), asked("{"+sign+" } 5"), asked(sign+" {5}"), asked(sign+" ^c 5"), asked("5 "+sign), asked(sign+" (a)"), asked(sign+" -->"))
		for other := range preds {
			if other != "" {
				wantError(t, api.ErrParse, asked(sign+" "+other+" 5"), asked(sign+" "+other+" <x>"), asked("{"+sign+" "+other+" 5}"), asked("{5 "+sign+" "+other+" <x> }"))
			}
		}
	}
}

// P15.1: single tests between braces, some of them, and nothing else.
func TestBraces(t *testing.T) {
	wantProgram(t, asked("{5}"), askedProgram(tests("b", ofVal(0, num(5)))))
	wantProgram(t, asked("{5} ^c {<x> nil}"), rules(rule("r", conds(cond("a", tests("b", ofVal(0, num(5))), tests("c", ofVar(0, "x"), ofVal(0, api.Value{})))), nil)))
	var l []api.Test
	for i := range 8 {
		l = append(l, ofVar(uint8(i%6), "v"))
	}
	signs := "= <v> <> <v> < <v> <= <v> > <v> >= <v> <v> <> <v>"
	wantProgram(t, asked("{"+signs+"}"), askedProgram(tests("b", l...)))
	wantError(t, api.ErrLimit, asked("{"+signs+" 5}"), asked("{ <v> "+signs+" }"))
	wantError(t, api.ErrParse, asked("{}"), asked("{ }"), asked("{"), asked("}"), asked("{5"), asked("5}"), asked("{5}}"), asked("{{5}}"), asked("{5)"), asked("{5>>"), asked("{<<5>>}"), asked("{5} 6"), asked("{5}{6}"), asked("{^b 5}"), asked("{(+ 1 2)}"), asked("{(a)}"), asked("}5{"), asked("{-(a)}"), asked("{-->}"), asked(signs))
}

// P15.1: an attribute without a test, and what is none.
func TestNoTest(t *testing.T) {
	wantError(t, api.ErrParse, asked(""), asked("^c"), asked("(5)"), asked("()"), asked("(+ 1 2)"), asked("-->"), asked("-("), asked("-(a)"), asked("5 5"), asked("<x> <y>"), asked("5 <x>"), asked("^c 5"))
	wantProgram(t, asked("- ^c -5"), rules(rule("r", conds(cond("a", tests("b", ofVal(0, sym("-"))), tests("c", ofVal(0, num(-5))))), nil)))
	wantRead(t, asked(strings.Repeat("5 ^c ", 5)+"5"))
}
