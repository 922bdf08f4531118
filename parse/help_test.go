package parse

import (
	"fmt"
	"reflect"
	"strings"
	"testing"

	"intarsia/api"
)

const (
	most    = 1 << 40 // the greatest number that may be
	maxText = 16384
)

// Short forms of a program's parts.
func num(n int) api.Value                          { return api.Value{Kind: 1, N: n} }
func sym(s string) api.Value                       { return api.Value{Kind: 2, S: s} }
func class(name string, attrs ...string) api.Class { return api.Class{Name: name, Attrs: attrs} }
func classes(l ...api.Class) api.Program           { return api.Program{Classes: l} }
func rules(l ...api.Rule) api.Program              { return api.Program{Rules: l} }
func cond(name string, l ...api.AttrTest) api.Cond { return api.Cond{Class: name, Attrs: l} }
func negated(name string, l ...api.AttrTest) api.Cond {
	return api.Cond{Neg: true, Class: name, Attrs: l}
}
func conds(l ...api.Cond) []api.Cond                { return l }
func one(attr string, l ...api.Value) api.AttrTest  { return api.AttrTest{Attr: attr, Ones: l} }
func tests(attr string, l ...api.Test) api.AttrTest { return api.AttrTest{Attr: attr, Tests: l} }
func ofVar(pred uint8, name string) api.Test        { return api.Test{Pred: pred, Var: name} }
func ofVal(pred uint8, v api.Value) api.Test        { return api.Test{Pred: pred, Val: v} }
func constant(v api.Value) api.Item                 { return api.Item{Val: v} }
func variable(name string) api.Item                 { return api.Item{Kind: 1, Var: name} }
func op(kind uint8) api.Item                        { return api.Item{Kind: kind} }
func items(l ...api.Item) []api.Item                { return l }
func set(attr string, l ...api.Item) api.Set        { return api.Set{Attr: attr, Expr: l} }
func madeOf(name string, l ...api.Set) api.Act      { return api.Act{Class: name, Sets: l} }
func modify(n int, l ...api.Set) api.Act            { return api.Act{Kind: 1, N: n, Sets: l} }
func remove(n int) api.Act                          { return api.Act{Kind: 2, N: n} }
func bind(name string, l ...api.Item) api.Act {
	return api.Act{Kind: 3, Var: name, Exprs: [][]api.Item{l}}
}
func write(l ...[]api.Item) api.Act { return api.Act{Kind: 4, Exprs: l} }
func halt() api.Act                 { return api.Act{Kind: 5} }
func acts(l ...api.Act) []api.Act   { return l }
func rule(name string, c []api.Cond, a []api.Act) api.Rule {
	return api.Rule{Name: name, Conds: c, Acts: a}
}

// ruled puts texts into the places of a rule's conditions and acts.
func ruled(conds, acts string) string { return "(p r " + conds + " --> " + acts + ")" }

// asked puts a text into the place of an attribute's test.
func asked(test string) string { return ruled("(a ^b "+test+")", "") }

// acting puts a text into the place of a rule's acts.
func acting(acts string) string { return ruled("(a)", acts) }

// reckoned puts a text into the place of an expression.
func reckoned(expr string) string { return acting("(bind <z> " + expr + ")") }

// askedProgram and actingProgram are what such texts are to be read as.
func askedProgram(a api.AttrTest) api.Program { return rules(rule("r", conds(cond("a", a)), nil)) }
func actingProgram(l ...api.Act) api.Program  { return rules(rule("r", conds(cond("a")), l)) }
func reckonedProgram(l ...api.Item) api.Program {
	return actingProgram(bind("z", l...))
}

// alike tells whether two things are the same in all that they have, where an
// empty list is as none.
func alike(a, b reflect.Value) bool {
	switch a.Kind() {
	case reflect.Slice:
		if a.Len() != b.Len() {
			return false
		}
		for i := range a.Len() {
			if !alike(a.Index(i), b.Index(i)) {
				return false
			}
		}
		return true
	case reflect.Struct:
		for i := range a.NumField() {
			if !alike(a.Field(i), b.Field(i)) {
				return false
			}
		}
		return true
	}
	return a.Interface() == b.Interface()
}

func samePrograms(a, b api.Program) bool { return alike(reflect.ValueOf(a), reflect.ValueOf(b)) }

// short tells the beginning of a program.
func short(p api.Program) string { return fmt.Sprintf("%.400s", fmt.Sprintf("%+v", p)) }

// wantParse asks for a program, or an error, of Parse and of the test's own
// reading by a grammar.
func wantParse(t *testing.T, text string, want api.Program, err api.Errno) {
	t.Helper()
	if p, e := Parse(text); e != err || !samePrograms(p, want) {
		t.Errorf("Parse(%.200q) = %s, %d; want %s, %d", text, short(p), int(e), short(want), int(err))
	}
	if p, e := readByGrammar(text); e != err || !samePrograms(p, want) {
		t.Errorf("%.200q: the test's own grammar tells %s, %d; want %s, %d", text, short(p), int(e), short(want), int(err))
	}
}

func wantProgram(t *testing.T, text string, want api.Program) {
	t.Helper()
	wantParse(t, text, want, api.OK)
}

func wantError(t *testing.T, err api.Errno, texts ...string) {
	t.Helper()
	for _, text := range texts {
		wantParse(t, text, api.Program{}, err)
	}
}

// wantRead asks that a text is read without an error, whatever as.
func wantRead(t *testing.T, texts ...string) {
	t.Helper()
	for _, text := range texts {
		if e := wantAsGrammar(t, text); e != api.OK {
			t.Errorf("Parse(%.200q): %d", text, int(e))
		}
	}
}

// wantAsGrammar asks what a text is read as of the test's own grammar alone.
func wantAsGrammar(t *testing.T, text string) api.Errno {
	t.Helper()
	p, e := Parse(text)
	want, err := readByGrammar(text)
	if e != err || !samePrograms(p, want) {
		t.Fatalf("Parse(%q) = %s, %d; want %s, %d", text, short(p), int(e), short(want), int(err))
	}
	return e
}

// joined puts pieces of a text together, with a blank between each two, but
// behind a `-`, so that it is a Not ahead of a `(`.
func joined(pieces []string) string {
	s := ""
	for _, p := range pieces {
		s += p
		if p != "-" {
			s += " "
		}
	}
	return s
}

// pieces takes a text apart where it has blanks.
func pieces(text string) []string { return strings.Fields(text) }

// whole is a program with a part of each kind, its tokens apart from each other,
// but for the Not, which has a blank of its own in joined.
const whole = `( literalize a b c ) ( p r ( a ^b { > 3 <> <x> } ^c << 1 y nil >> ) - ( a ^b <y> ^c = z ) --> ` +
	`( modify 1 ^b ( + <x> ( * 2 3 ) ) ) ( remove 2 ) ( bind <z> 4 ) ( write <z> hi ) ( make a ^c nil ) ( halt ) ) ` +
	`( literalize d e ) ( p s ( d ) --> )`
