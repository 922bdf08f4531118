package show

import (
	"fmt"
	"math/rand"
	"strings"
	"testing"

	"intarsia/api"
	"intarsia/parse"
)

// wantParsed asks that a text is parsed as a program that is told by another
// text, which is parsed as that program, and told as it was.
func wantParsed(t *testing.T, text, want string) api.Program {
	t.Helper()
	p, e := parse.Parse(text)
	if e != api.OK {
		t.Fatalf("Parse(%.300q): %d", text, int(e))
	}
	s := Text(p)
	if s != want {
		t.Fatalf("%.300q is told as %.300q; want %.300q", text, s, want)
	}
	q, e := parse.Parse(s)
	if e != api.OK || !parse.Same(p, q) {
		t.Fatalf("Parse(%.300q) = %s, %d; want %s", s, short(q), int(e), short(p))
	}
	if again := Text(q); again != s {
		t.Fatalf("%.300q is told as %.300q", s, again)
	}
	return p
}

// ruled puts texts into the places of a rule's conditions and acts.
func ruled(conds, acts string) string { return "(p r " + conds + " -->" + acts + ")\n" }

// P16.5: texts that are told as they were.
func TestParsedAsTold(t *testing.T) {
	for _, text := range []string{
		"",
		"(literalize a b)\n",
		"(literalize a b c)\n(literalize d e)\n",
		ruled("(a)", ""),
		ruled("-(a)", " (halt)"),
		ruled("(a) -(a) (b)", ""),
		ruled("(a ^b 1 ^c nil ^d <x> ^e y)", ""),
		ruled("(a ^b < 3 ^c <= <x> ^d > 3 ^e >= <x> ^f <> y ^g -3)", ""),
		ruled("(a ^b { <x> > 3 } ^c { <> nil < <x> <= 4 >= - })", ""),
		ruled("(a ^b << 1 >> ^c << 1 y nil -1 - >>)", ""),
		ruled("(a ^nil <12> ^12 <nil> ^- <->)", ""),
		ruled("(-) -(-)", " (make -)"),
		ruled("(a)", " (make a) (make a ^b 1 ^c <x>)"),
		ruled("(a)", " (modify 1) (modify -1 ^b 1) (modify 0 ^b y ^b nil)"),
		ruled("(a)", " (remove 1) (remove -5)"),
		ruled("(a)", " (bind <x> 1) (bind <y> (+ 1 <x>))"),
		ruled("(a)", " (write) (write 1 y nil <x> (* 2 -3))"),
		ruled("(a)", " (write (- (+ 1 2) 3) (- 3 (+ 1 2)) (- - (- - -)))"),
		ruled("(a)", " (write "+strings.Repeat("(+ ", 8)+"1"+strings.Repeat(" 2)", 8)+")"),
		"(p p (p) --> (make p))\n(p literalize (make ^p halt) --> (make write ^bind modify))\n",
		"(literalize é ü)\n(p ä (é ^ü ö) --> (write 中))\n",
	} {
		wantParsed(t, text, text)
	}
}

// P16.5: texts of other white, and with more than they need, are told in one way.
func TestParsedInOneWay(t *testing.T) {
	for text, want := range map[string]string{
		" ; nothing\n":                          "",
		"(literalize\ta\r\nb;c)\n)":             "(literalize a b)\n",
		"(p r(a)-->)(literalize a b)":           "(literalize a b)\n(p r (a) -->)\n",
		ruled("(a ^b { 3 })", ""):               ruled("(a ^b 3)", ""),
		ruled("(a ^b { > <x> })", ""):           ruled("(a ^b > <x>)", ""),
		ruled("(a ^b = 3 ^c = <x>)", ""):        ruled("(a ^b 3 ^c <x>)", ""),
		ruled("(a ^b { = 3 = <x> })", ""):       ruled("(a ^b { 3 <x> })", ""),
		ruled("(a ^b +5 ^c 007 ^d -0)", ""):     ruled("(a ^b 5 ^c 7 ^d 0)", ""),
		ruled("(a^b{<x><y>}^c<<1>>)", ""):       ruled("(a ^b { <x> <y> } ^c << 1 >>)", ""),
		ruled("(a)", "(write(+ 1(* 2 +3)))"):    ruled("(a)", " (write (+ 1 (* 2 3)))"),
		ruled("(a)-(a)", "(halt)(remove +01)"):  ruled("(a) -(a)", " (halt) (remove 1)"),
		ruled("(a)", "(bind<x>y)(make a^b<x>)"): ruled("(a)", " (bind <x> y) (make a ^b <x>)"),
	} {
		wantParsed(t, text, want)
	}
}

// source draws programs that may be parsed, and lays their texts in other ways
// than they are told.
type source struct {
	*rand.Rand
	text strings.Builder
}

// lay lays a token, with white behind it.
func (s *source) lay(token string) {
	s.text.WriteString(token + []string{" ", " ", " ", "\n", "\t \r", " ; (p r\n"}[s.Intn(6)])
}

func (s *source) word() string {
	l := []string{"a", "b", "c", "p", "halt", "make", "literalize", "-", "--", "+", "*", "é", "a.b", "!", "-a", "x1", "abcdefghijklmnopqrstuvwx"}
	return l[s.Intn(len(l))]
}

// run draws a name of an attribute or a variable, which may be any run.
func (s *source) run() string {
	return []string{s.word(), s.word(), "12", "-5", "nil"}[s.Intn(5)]
}

// laid lays drawn parts, from least to greatest.
func laid[T any](s *source, least, greatest int, part func() T) []T {
	var l []T
	for range least + s.Intn(greatest-least+1) {
		l = append(l, part())
	}
	return l
}

func (s *source) name() string {
	n := s.word()
	s.lay(n)
	return n
}

func (s *source) number(most int) int {
	n := s.Intn(2*most+1) - most
	s.lay(fmt.Sprintf([]string{"%d", "%+d", "%04d"}[s.Intn(3)], n))
	return n
}

func (s *source) value() api.Value {
	switch s.Intn(4) {
	case 0:
		s.lay("nil")
		return api.Value{}
	case 1:
		return num(s.number(most >> s.Intn(41)))
	}
	return sym(s.name())
}

func (s *source) variable() string {
	n := s.run()
	s.lay("<" + n + ">")
	return n
}

func (s *source) attr() string {
	n := s.run()
	s.lay("^" + n)
	return n
}

func (s *source) class() api.Class {
	s.lay("(literalize")
	c := api.Class{Name: s.name(), Attrs: laid(s, 1, 6, s.name)}
	s.lay(")")
	return c
}

func (s *source) rule() api.Rule {
	s.lay("(p")
	r := api.Rule{Name: s.name(), Conds: laid(s, 1, 5, s.cond)}
	s.lay("-->")
	r.Acts = laid(s, 0, 8, s.act)
	s.lay(")")
	return r
}

func (s *source) cond() api.Cond {
	c := api.Cond{Neg: s.Intn(3) == 0}
	s.lay(map[bool]string{false: "(", true: "-("}[c.Neg])
	c.Class = s.name()
	c.Attrs = laid(s, 0, 6, s.attrTest)
	s.lay(")")
	return c
}

func (s *source) attrTest() api.AttrTest {
	a := api.AttrTest{Attr: s.attr()}
	switch s.Intn(3) {
	case 0:
		s.lay("<<")
		a.Ones = laid(s, 1, 4, s.value)
		s.lay(">>")
	case 1:
		s.lay("{")
		a.Tests = laid(s, 1, 4, s.test)
		s.lay("}")
	default:
		a.Tests = laid(s, 1, 1, s.test)
	}
	return a
}

func (s *source) test() api.Test {
	t := api.Test{Pred: uint8(s.Intn(6))}
	if t.Pred > 0 || s.Intn(2) == 0 {
		s.lay([]string{"=", "<>", "<", "<=", ">", ">="}[t.Pred])
	}
	if s.Intn(2) == 0 {
		t.Var = s.variable()
	} else {
		t.Val = s.value()
	}
	return t
}

func (s *source) act() api.Act {
	a := api.Act{Kind: uint8(s.Intn(6))}
	s.lay([]string{"(make", "(modify", "(remove", "(bind", "(write", "(halt"}[a.Kind])
	switch a.Kind {
	case 0:
		a.Class = s.name()
		a.Sets = laid(s, 0, 6, s.set)
	case 1:
		a.N = s.number(5)
		a.Sets = laid(s, 0, 6, s.set)
	case 2:
		a.N = s.number(most)
	case 3:
		a.Var = s.variable()
		a.Exprs = laid(s, 1, 1, s.expr)
	case 4:
		a.Exprs = laid(s, 0, 8, s.expr)
	}
	s.lay(")")
	return a
}

func (s *source) set() api.Set { return api.Set{Attr: s.attr(), Expr: s.expr()} }

func (s *source) expr() []api.Item { return s.items(0) }

func (s *source) items(within int) []api.Item {
	if within == 8 || s.Intn(3) == 0 {
		if s.Intn(2) == 0 {
			return items(variableOf(s.variable()))
		}
		return items(constant(s.value()))
	}
	kind := s.Intn(3)
	s.lay("(" + "+-*"[kind:kind+1] + " ")
	l := append(s.items(within+1+s.Intn(8-within)), s.items(within+1+s.Intn(8-within))...)
	s.lay(")")
	return append(l, op(uint8(2+kind)))
}

// program lays classes and rules among one another.
func (s *source) program() api.Program {
	var p api.Program
	for range s.Intn(6) {
		if s.Intn(2) == 0 {
			p.Classes = append(p.Classes, s.class())
		} else {
			p.Rules = append(p.Rules, s.rule())
		}
	}
	return p
}

// P16.5: drawn programs, from drawn texts.
func TestParsedDrawn(t *testing.T) {
	r := rand.New(rand.NewSource(165))
	for told := 0; told < 1500; {
		s := &source{Rand: r}
		p := s.program()
		text := s.text.String()
		want := programText(p)
		if max(len(text), len(want)) > api.MaxText {
			continue
		}
		told++
		if q := wantParsed(t, text, want); !parse.Same(p, q) {
			t.Fatalf("Parse(%q) = %s; want %s", text, short(q), short(p))
		}
	}
}
