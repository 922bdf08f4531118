package show

import (
	"fmt"
	"testing"

	"intarsia/api"
)

const most = 1 << 40 // the greatest number that may be

// Short forms of a program's parts.
func num(n int) api.Value                           { return api.Value{Kind: 1, N: n} }
func sym(s string) api.Value                        { return api.Value{Kind: 2, S: s} }
func constant(v api.Value) api.Item                 { return api.Item{Val: v} }
func number(n int) api.Item                         { return constant(num(n)) }
func variableOf(name string) api.Item               { return api.Item{Kind: 1, Var: name} }
func op(kind uint8) api.Item                        { return api.Item{Kind: kind} }
func items(l ...api.Item) []api.Item                { return l }
func ones(attr string, l ...api.Value) api.AttrTest { return api.AttrTest{Attr: attr, Ones: l} }
func tests(attr string, l ...api.Test) api.AttrTest { return api.AttrTest{Attr: attr, Tests: l} }
func ofVar(pred uint8, name string) api.Test        { return api.Test{Pred: pred, Var: name} }
func ofVal(pred uint8, v api.Value) api.Test        { return api.Test{Pred: pred, Val: v} }
func condOf(name string, l ...api.AttrTest) api.Cond {
	return api.Cond{Class: name, Attrs: l}
}
func negated(name string, l ...api.AttrTest) api.Cond {
	return api.Cond{Neg: true, Class: name, Attrs: l}
}
func setOf(attr string, l ...api.Item) api.Set { return api.Set{Attr: attr, Expr: l} }
func classOf(name string, attrs ...string) api.Class {
	return api.Class{Name: name, Attrs: attrs}
}

// noValues are values that may not be, of each way in which one may not.
func noValues() []api.Value {
	return []api.Value{
		{Kind: 3}, {Kind: 255}, {Kind: 3, N: 5, S: "a"},
		{N: 1}, {S: "a"}, {Kind: 1, S: "a"}, {Kind: 1, N: 5, S: "a"}, {Kind: 2, N: 1, S: "a"},
		num(most + 1), num(-most - 1), num(1<<63 - 1), num(-1 << 63),
		sym(""), sym("nil"), sym("12"), sym("-5"), sym("+0"), sym("a b"), sym("<x>"), sym("a\n"), sym("\xff"), sym("abcdefghijklmnopqrstuvwxy"),
	}
}

// signs are the preds' signs with their blank, in the preds' order.
func signs() []string { return []string{"", "<> ", "< ", "<= ", "> ", ">= "} }

// wantText asks for a text of what tells one, and of the test's own telling.
func wantText[T any](t *testing.T, tells, own func(T) string, of T, want string) {
	t.Helper()
	if s := tells(of); s != want {
		t.Errorf("%s: %.300q; want %.300q", short(of), s, want)
	}
	if s := own(of); s != want {
		t.Errorf("%s: the test's own telling is %.300q; want %.300q", short(of), s, want)
	}
}

func wantExpr(t *testing.T, l []api.Item, want string) {
	t.Helper()
	wantText(t, func(l []api.Item) string {
		s, ok := Expr(l)
		if !ok {
			t.Errorf("Expr(%s) is none", short(l))
		}
		return s
	}, exprText, l, want)
}

// wantNone asks that items are no expression, and that the text is empty then.
func wantNone(t *testing.T, l ...api.Item) {
	t.Helper()
	if s, ok := Expr(l); s != "" || ok {
		t.Errorf("Expr(%s) = %q, %v", short(l), s, ok)
	}
	if s, ok := pileText(l); s != "" || ok {
		t.Errorf("%s: the test's own pile tells %q, %v", short(l), s, ok)
	}
}

func wantTest(t *testing.T, a api.AttrTest, want string) {
	t.Helper()
	wantText(t, Test, testText, a, want)
}

func wantCond(t *testing.T, c api.Cond, want string) {
	t.Helper()
	wantText(t, Cond, condText, c, want)
}

func wantAct(t *testing.T, a api.Act, want string) {
	t.Helper()
	wantText(t, Act, actText, a, want)
}

func wantRule(t *testing.T, r api.Rule, want string) {
	t.Helper()
	wantText(t, Rule, ruleText, r, want)
}

func wantProgram(t *testing.T, p api.Program, want string) {
	t.Helper()
	wantText(t, Text, programText, p, want)
}

// short tells the beginning of a thing.
func short(x any) string { return fmt.Sprintf("%.400s", fmt.Sprintf("%+v", x)) }
