package parse

import (
	"slices"
	"strings"

	"intarsia/api"
	"intarsia/lex"
)

// grammar is the chapter's section 'Words', a line for each of them: `?` is
// perhaps, `*` as many as there are, `+` some. A word with a ' ahead is a Symbol.
const grammar = `
program = part*
part = class | rule
class = ( 'literalize name name+ )
rule = ( 'p name cond+ --> act* )
cond = not? ( name attrtest* )
attrtest = attr test
test = ones | tests | single
ones = << val+ >>
tests = { single+ }
single = pred? operand
operand = var | val
act = make | modify | remove | bind | write | halt
make = ( 'make name set* )
modify = ( 'modify number set* )
remove = ( 'remove number )
bind = ( 'bind var expr )
write = ( 'write expr* )
halt = ( 'halt )
set = attr expr
expr = var | val | sum
sum = ( sign expr expr )
sign = '+ | '- | '*
`

// tree is a word of the grammar, and what it was found to have, or a token.
type tree struct {
	word  string
	token lex.Token
	kids  []tree
}

// part is a word of a grammar's line, and how often it may stand there.
type part struct {
	word            string
	least, greatest int
}

// lines are the grammar's, by their words; each has alternatives.
var lines = linesOf(grammar)

func linesOf(grammar string) map[string][][]part {
	m := map[string][][]part{}
	for line := range strings.Lines(grammar) {
		word, rest, _ := strings.Cut(strings.TrimSpace(line), " = ")
		for alternative := range strings.SplitSeq(rest, " | ") {
			var l []part
			for _, s := range strings.Fields(alternative) {
				l = append(l, partOf(s))
			}
			m[word] = append(m[word], l)
		}
	}
	return m
}

func partOf(s string) part {
	word, mark := s[:len(s)-1], s[len(s)-1]
	switch {
	case word == "'": // a sign
	case mark == '?':
		return part{word, 0, 1}
	case mark == '*':
		return part{word, 0, maxText}
	case mark == '+':
		return part{word, 1, maxText}
	}
	return part{s, 1, 1}
}

// finder finds words among tokens.
type finder struct{ tokens []lex.Token }

// kinds are the words of lex's kinds.
var kinds = [12]string{"(", ")", "{", "}", "<<", ">>", "-->", "not", "attr", "var", "pred", "val"}

// isToken tells whether a token is what a word asks for that has no line.
func isToken(t lex.Token, word string) bool {
	if s, ok := strings.CutPrefix(word, "'"); ok {
		return t == lex.Token{Kind: lex.Val, Val: sym(s), At: t.At}
	}
	switch word {
	case "name":
		return t.Kind == lex.Val && t.Val.Kind == 2
	case "number":
		return t.Kind == lex.Val && t.Val.Kind == 1
	}
	return kinds[t.Kind] == word
}

// word finds a word from a token on; it tells where it ends, or -1.
func (f finder) word(word string, at int) (tree, int) {
	alternatives, ok := lines[word]
	if !ok {
		if at < len(f.tokens) && isToken(f.tokens[at], word) {
			return tree{word: word, token: f.tokens[at]}, at + 1
		}
		return tree{}, -1
	}
	for _, l := range alternatives {
		if kids, end := f.parts(l, at); end >= 0 {
			return tree{word: word, kids: kids}, end
		}
	}
	return tree{}, -1
}

// parts finds words one behind the other.
func (f finder) parts(parts []part, at int) ([]tree, int) {
	var l []tree
	for _, p := range parts {
		n := 0
		for n < p.greatest {
			kid, end := f.word(p.word, at)
			if end < 0 {
				break
			}
			l, at, n = append(l, kid), end, n+1
		}
		if n < p.least {
			return nil, -1
		}
	}
	return l, at
}

// all tells the kids that are a word.
func (x tree) all(word string) []tree {
	var l []tree
	for _, k := range x.kids {
		if k.word == word {
			l = append(l, k)
		}
	}
	return l
}

func (x tree) first(word string) tree { return append(x.all(word), tree{})[0] }

// within tells the greatest number of sums that something of the tree is in.
func (x tree) within() int {
	n := 0
	for _, k := range x.kids {
		n = max(n, k.within())
	}
	if x.word == "sum" {
		n++
	}
	return n
}

// tooMany tells whether the tree has more of something than may be.
func (x tree) tooMany() bool {
	limits := []struct {
		of, kid string
		most    int
	}{
		{"class", "name", 1 + 6}, {"rule", "cond", 5}, {"rule", "act", 8}, {"cond", "attrtest", 6}, {"ones", "val", 8},
		{"tests", "single", 8}, {"make", "set", 6}, {"modify", "set", 6}, {"write", "expr", 8},
	}
	for _, l := range limits {
		if x.word == l.of && len(x.all(l.kid)) > l.most {
			return true
		}
	}
	return x.within() > 8 || slices.ContainsFunc(x.kids, tree.tooMany)
}

// readByGrammar is P15.1, by the grammar's lines.
func readByGrammar(text string) (api.Program, api.Errno) {
	tokens, _, err := lex.Scan(text)
	if err != api.OK {
		return api.Program{}, err
	}
	x, end := finder{tokens}.word("program", 0)
	if end != len(tokens) {
		return api.Program{}, api.ErrParse
	}
	p := programOf(x)
	if len(p.Classes) > 16 || len(p.Rules) > 16 || x.tooMany() {
		return api.Program{}, api.ErrLimit
	}
	return p, api.OK
}

// mapped tells what a function makes of each of a list.
func mapped[T any](l []tree, f func(tree) T) []T {
	var out []T
	for _, x := range l {
		out = append(out, f(x))
	}
	return out
}

func symbolOf(x tree) string   { return x.token.Val.S }
func valueOf(x tree) api.Value { return x.token.Val }

func programOf(x tree) api.Program {
	var p api.Program
	for _, part := range x.kids {
		p.Classes = append(p.Classes, mapped(part.all("class"), classOf)...)
		p.Rules = append(p.Rules, mapped(part.all("rule"), ruleOf)...)
	}
	return p
}

func classOf(x tree) api.Class {
	names := mapped(x.all("name"), symbolOf)
	return class(names[0], names[1:]...)
}

func ruleOf(x tree) api.Rule {
	return rule(symbolOf(x.first("name")), mapped(x.all("cond"), condOf), mapped(x.all("act"), actOf))
}

func condOf(x tree) api.Cond {
	return api.Cond{Neg: len(x.all("not")) == 1, Class: symbolOf(x.first("name")), Attrs: mapped(x.all("attrtest"), attrTestOf)}
}

func attrTestOf(x tree) api.AttrTest {
	test := x.first("test")
	l := append(test.all("single"), test.first("tests").all("single")...)
	return api.AttrTest{Attr: x.first("attr").token.Name, Ones: mapped(test.first("ones").all("val"), valueOf), Tests: mapped(l, singleOf)}
}

func singleOf(x tree) api.Test {
	o := x.first("operand")
	return api.Test{Pred: x.first("pred").token.Pred, Var: o.first("var").token.Name, Val: valueOf(o.first("val"))}
}

func actOf(x tree) api.Act {
	k := x.kids[0]
	kind := slices.Index([]string{"make", "modify", "remove", "bind", "write", "halt"}, k.word)
	return api.Act{
		Kind: uint8(kind), Class: symbolOf(k.first("name")), N: valueOf(k.first("number")).N, Var: k.first("var").token.Name,
		Sets: mapped(k.all("set"), setOf), Exprs: mapped(k.all("expr"), exprOf),
	}
}

func setOf(x tree) api.Set {
	return api.Set{Attr: x.first("attr").token.Name, Expr: exprOf(x.first("expr"))}
}

func exprOf(x tree) []api.Item {
	k := x.kids[0]
	switch k.word {
	case "var":
		return items(variable(k.token.Name))
	case "val":
		return items(constant(k.token.Val))
	}
	e := k.all("expr")
	sign := k.first("sign").kids[0].token.Val.S
	return append(append(exprOf(e[0]), exprOf(e[1])...), op(uint8(2+strings.Index("+-*", sign))))
}
