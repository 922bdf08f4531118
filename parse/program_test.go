package parse

import (
	"slices"
	"strings"
	"testing"

	"intarsia/api"
)

// wholeProgram is what whole is to be read as.
func wholeProgram() api.Program {
	first := cond("a", tests("b", ofVal(4, num(3)), ofVar(1, "x")), one("c", num(1), sym("y"), api.Value{}))
	second := negated("a", tests("b", ofVar(0, "y")), tests("c", ofVal(0, sym("z"))))
	product := set("b", variable("x"), constant(num(2)), constant(num(3)), op(4), op(2))
	return api.Program{
		Classes: []api.Class{class("a", "b", "c"), class("d", "e")},
		Rules: []api.Rule{
			rule("r", conds(first, second), acts(
				modify(1, product), remove(2), bind("z", constant(num(4))), write(items(variable("z")), items(constant(sym("hi")))),
				madeOf("a", set("c", constant(api.Value{}))), halt())),
			rule("s", conds(cond("d")), nil),
		},
	}
}

// P15.1: the chapter's example, and a program with a part of each kind.
func TestPrograms(t *testing.T) {
	wantProgram(t, "(literalize a b) (p r (a ^b > 3) --> (make a ^b (+ 1 2)) (halt))", api.Program{
		Classes: []api.Class{class("a", "b")},
		Rules: []api.Rule{rule("r", conds(cond("a", tests("b", ofVal(4, num(3))))),
			acts(madeOf("a", set("b", constant(num(1)), constant(num(2)), op(2))), halt()))},
	})
	wantProgram(t, joined(pieces(whole)), wholeProgram())
}

// P15.1: nothing but white is a program without classes and rules.
func TestEmpty(t *testing.T) {
	for _, text := range []string{"", " ", "\t", "\n", "\r", " \r\n\t ", ";", "; (p", ";\n", " ; a )\n;b\n", strings.Repeat(" ", maxText), ";" + strings.Repeat("(", maxText-1)} {
		wantProgram(t, text, api.Program{})
	}
}

// P15.1: what lex.Scan refuses, ahead of all else.
func TestScanErrors(t *testing.T) {
	class := "(literalize a b)"
	wantError(t, api.ErrLong, strings.Repeat(" ", maxText+1), class+strings.Repeat(" ", maxText+1-len(class)), strings.Repeat(")", maxText+1), strings.Repeat("#", maxText+1), strings.Repeat(class, 2000))
	wantProgram(t, class+strings.Repeat(" ", maxText-len(class)), classes(api.Class{Name: "a", Attrs: []string{"b"}}))
	long := strings.Repeat("x", 25)
	for _, wrong := range []string{"#", "^", "\x00", "\xff", "1099511627777", "-1099511627777", "^" + long, "<" + long + ">", long, ",", "'", "\"a\""} {
		wantError(t, api.ErrLex, wrong, class+wrong, wrong+" "+class, "( "+wrong, ") "+wrong, wrong+" )", "(literalize a "+wrong+" b)", acting("(write "+wrong+")"), asked(wrong), strings.Repeat(class, 17)+wrong)
	}
}

// P15.1: classes and rules in any order, each in their own; names that stand
// twice are no matter here.
func TestOrders(t *testing.T) {
	texts := []string{"(literalize a b)", "(literalize a c d)", "(literalize z z)", "(p r (a) -->)", "(p r -(b) --> (halt))", "(p q (c) (c) -->)"}
	all := api.Program{
		Classes: []api.Class{class("a", "b"), class("a", "c", "d"), class("z", "z")},
		Rules:   []api.Rule{rule("r", conds(cond("a")), nil), rule("r", conds(negated("b")), acts(halt())), rule("q", conds(cond("c"), cond("c")), nil)},
	}
	var lay func(done []int)
	lay = func(done []int) {
		var p api.Program
		text := ""
		for _, i := range done {
			text += texts[i]
			if i < 3 {
				p.Classes = append(p.Classes, all.Classes[i])
			} else {
				p.Rules = append(p.Rules, all.Rules[i-3])
			}
		}
		wantProgram(t, text, p)
		for i := range texts {
			if !slices.Contains(done, i) {
				lay(append(slices.Clone(done), i))
			}
		}
	}
	lay(nil)
}

// P15.1: a text whose tokens break off is a program behind its classes and rules
// alone.
func TestBrokenOff(t *testing.T) {
	l := pieces(whole)
	depth := 0
	for i := range l {
		text := joined(l[:i])
		if e := wantAsGrammar(t, text); (e == api.OK) != (depth == 0) || e != api.OK && e != api.ErrParse {
			t.Errorf("Parse(%q): %d", text, int(e))
		}
		switch l[i] {
		case "(":
			depth++
		case ")":
			depth--
		}
	}
}

// P15.1: a token more behind a program, or ahead of it.
func TestOneMore(t *testing.T) {
	for _, more := range []string{"(", ")", "{", "}", "<<", ">>", "-->", "-", "-(", "^a", "<x>", "=", "<", "5", "a", "nil", "p", "literalize", "+"} {
		wantError(t, api.ErrParse, more, "(literalize a b) "+more, acting("(halt)")+more, joined(pieces(whole))+more, more+" "+joined(pieces(whole)))
	}
}

// P15.1: what begins as no class and no rule does.
func TestOtherParts(t *testing.T) {
	wantError(t, api.ErrParse, "()", "(a)", "(a b)", "(P r (a) -->)", "(Literalize a b)", "(literalise a b)", "(pp r (a) -->)", "(p)", "(literalize)", "(5 a b)", "(nil a b)", "(<p> r (a) -->)", "(^p r (a) -->)",
		"((literalize a b))", "{literalize a b}", "literalize a b", "p r (a) -->", "-(literalize a b)", "-(p r (a) -->)", "(make a)", "(halt)", "(a ^b 5)")
	wantProgram(t, "( literalize a b )", classes(class("a", "b")))
}

// P15.1: each token of a program taken away, doubled, changed with another one,
// or put in another's place: as the grammar says.
func TestTokensChanged(t *testing.T) {
	l := pieces(whole)
	read := map[api.Errno]int{}
	try := func(l []string) { read[wantAsGrammar(t, joined(l))]++ }
	for i := range l {
		try(slices.Delete(slices.Clone(l), i, i+1))
		try(slices.Insert(slices.Clone(l), i, l[i]))
		for k := range l {
			m := slices.Clone(l)
			m[i] = l[k]
			try(m)
			m[k] = l[i]
			try(m)
			try(slices.Insert(slices.Clone(l), i, l[k]))
		}
	}
	if read[api.OK] < 1000 || read[api.ErrParse] < 10000 || len(read) > 2 {
		t.Errorf("%v", read)
	}
}
