package parse

import (
	"strings"
	"testing"

	"intarsia/api"
)

// noNames are what can't stand in a name's place.
func noNames() []string {
	return []string{"5", "-5", "+0", "nil", "<x>", "^a", "=", "<>", "(", ")", "()", "(a)", "{", "{a}", "<<a>>", "-->", "-(", ""}
}

// names are what can, though some of them mean more in another place.
func names() []string {
	return []string{"a", "Z", "p", "literalize", "make", "halt", "+", "-", "*", "--", "-a", "+5x", "5x", "nil2", "Nil", "?", "!", ".", "_", "\u20ac", strings.Repeat("n", 24)}
}

// P15.1: names are Vals that are Symbols: of classes, attributes, rules, and
// classes in conditions and in acts.
func TestNames(t *testing.T) {
	for _, n := range names() {
		wantProgram(t, "(literalize "+n+" b)", classes(class(n, "b")))
		wantProgram(t, "(literalize b "+n+" c "+n+" )", classes(class("b", n, "c", n)))
		wantProgram(t, "(p "+n+" (a) -->)", rules(rule(n, conds(cond("a")), nil)))
		wantProgram(t, ruled("("+n+")-("+n+" ^b 5)", ""), rules(rule("r", conds(cond(n), negated(n, tests("b", ofVal(0, num(5))))), nil)))
		wantProgram(t, acting("(make "+n+")"), actingProgram(madeOf(n)))
	}
	for _, n := range noNames() {
		wantError(t, api.ErrParse, "(literalize "+n+" b)", "(p "+n+" (a) -->)", ruled("("+n+")", ""), ruled("(a) ("+n+" ^b 5)", ""), acting("(make "+n+")"), acting("(make "+n+" ^b 5)"))
		if n != "" {
			wantError(t, api.ErrParse, "(literalize b "+n+")", "(literalize b c "+n+" d)", "(literalize b c "+n+")")
		}
	}
}

// P15.1: a class has attributes, a rule conditions; acts it may have none.
func TestNone(t *testing.T) {
	wantError(t, api.ErrParse, "(literalize a)", "(literalize)", "(p r -->)", "(p r --> (halt))", "(p r)", "(p r (a))", "(p r (a) (halt))", "(p (a) -->)", "(p -->)", "(p r (a) --> -->)", "(p r (a) --> (halt) -->)", "(p r (a) --> (halt) (a))")
	wantProgram(t, "(literalize a b)", classes(class("a", "b")))
	wantProgram(t, "(p r (a) -->)", actingProgram())
	wantProgram(t, acting("(halt)"), actingProgram(halt()))
}

// P15.1: names of attributes and variables are as lex tells them.
func TestAttrNames(t *testing.T) {
	for _, n := range append(names(), "5", "-5", "nil") {
		wantProgram(t, ruled("(a ^"+n+" <"+n+">)", "(make a ^"+n+" <"+n+">) (bind <"+n+"> 5)"), rules(rule("r",
			conds(cond("a", tests(n, ofVar(0, n)))), acts(madeOf("a", set(n, variable(n))), bind(n, constant(num(5)))))))
	}
}
