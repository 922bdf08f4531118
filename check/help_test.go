package check

import (
	"fmt"
	"reflect"
	"slices"
	"strconv"
	"strings"
	"testing"

	"intarsia/api"
	"intarsia/parse"
)

// Short forms of a program's parts, for those that no text tells.
func classOf(name string, attrs ...string) api.Class { return api.Class{Name: name, Attrs: attrs} }
func condOf(name string, l ...api.AttrTest) api.Cond { return api.Cond{Class: name, Attrs: l} }
func tests(attr string, l ...api.Test) api.AttrTest  { return api.AttrTest{Attr: attr, Tests: l} }
func ofVar(pred uint8, name string) api.Test         { return api.Test{Pred: pred, Var: name} }
func variable(name string) api.Item                  { return api.Item{Kind: 1, Var: name} }
func items(l ...api.Item) []api.Item                 { return l }
func setOf(attr string, l ...api.Item) api.Set       { return api.Set{Attr: attr, Expr: l} }
func sets(l ...api.Set) []api.Set                    { return l }
func exprs(l ...[]api.Item) [][]api.Item             { return l }

// acting is a rule of the conditions (c ^p <x>) -(d ^q <y>) (c), so that <x> is
// bound, and its 2nd condition is negated.
func acting(l ...api.Act) api.Rule {
	r := ruleOf("(c ^p <x>) -(d ^q <y>) (c) -->")
	r.Acts = l
	return r
}

// twoClasses are c, with p and q, and d, with q alone.
func twoClasses() []api.Class { return []api.Class{classOf("c", "p", "q"), classOf("d", "q")} }

// negated is a condition, negated.
func negated(c api.Cond) api.Cond {
	c.Neg = true
	return c
}

// programOf tells the program of a text that is one. What stands as the condition
// (none) is none: a text has no rule without conditions.
func programOf(text string) api.Program {
	p, err := parse.Parse(text)
	if err != api.OK {
		panic(fmt.Sprintf("the test's own text is no program: %s: %v", text, err))
	}
	for i, r := range p.Rules {
		p.Rules[i].Conds = slices.DeleteFunc(r.Conds, func(c api.Cond) bool { return c.Class == "none" })
	}
	return p
}

// ruleOf tells the rule of a text like "(c) --> (halt)".
func ruleOf(text string) api.Rule { return programOf("(p r " + text + ")").Rules[0] }

// of tells the condition of a text like "-(c ^p <x>)".
func of(text string) api.Cond { return ruleOf(text + " -->").Conds[0] }

// kept asks that a call leaves what it is given as it is, the spare room, too.
func kept(t *testing.T, call func(), given ...any) {
	t.Helper()
	was := spelledAll(given)
	call()
	if is := spelledAll(given); is != was {
		t.Fatalf("changed: %.600s; it was %.600s", is, was)
	}
}

func wantErr(t *testing.T, name string, got, own, want api.Errno, of ...any) {
	t.Helper()
	if got != want {
		t.Errorf("%s(%s) = %d; want %d", name, short(of), int(got), int(want))
	}
	if own != want {
		t.Errorf("%s(%s): the test's own telling is %d; want %d", name, short(of), int(own), int(want))
	}
}

func wantProgram(t *testing.T, p api.Program, want api.Errno) {
	t.Helper()
	kept(t, func() { wantErr(t, "Program", Program(p), programErr(p), want, p) }, p)
}

// wantText asks for the error of a program's text behind that of two classes.
func wantText(t *testing.T, text string, want api.Errno) {
	t.Helper()
	wantProgram(t, programOf("(literalize c p q) (literalize d q) "+text), want)
}

func wantClasses(t *testing.T, want api.Errno, l ...api.Class) {
	t.Helper()
	kept(t, func() { wantErr(t, "Classes", Classes(l), classesErr(l), want, l) }, l)
	wantProgram(t, api.Program{Classes: l}, want)
}

// wantRule asks for a rule's error, with two classes.
func wantRule(t *testing.T, r api.Rule, want api.Errno) {
	t.Helper()
	l := twoClasses()
	kept(t, func() { wantErr(t, "Rule", Rule(l, r), ruleErr(l, r), want, r) }, l, r)
	wantProgram(t, api.Program{Classes: l, Rules: []api.Rule{r}}, want)
}

func wantExpr(t *testing.T, l []api.Item, bound string, want api.Errno) {
	t.Helper()
	b := strings.Fields(bound)
	kept(t, func() { wantErr(t, "Expr", Expr(l, b), exprErr(l, b), want, l, b) }, l, b)
}

// wantBound asks for what is bound behind a condition.
func wantBound(t *testing.T, l []api.Class, c api.Cond, bound, want []string) {
	t.Helper()
	kept(t, func() {
		got, err := Cond(l, c, bound)
		own, ownErr := condBound(l, c, bound)
		if !slices.Equal(got, want) || err != api.OK {
			t.Errorf("Cond(%s, %q) = %q, %d; want %q", short(c), bound, got, int(err), want)
		}
		if !slices.Equal(own, want) || ownErr != api.OK {
			t.Errorf("Cond(%s, %q): the test's own telling is %q, %d; want %q", short(c), bound, own, int(ownErr), want)
		}
	}, l, c, bound)
}

// wantNone asks for a condition's error, and no variables beside it.
func wantNone(t *testing.T, l []api.Class, c api.Cond, bound []string, want api.Errno) {
	t.Helper()
	kept(t, func() {
		got, err := Cond(l, c, bound)
		own, ownErr := condBound(l, c, bound)
		wantErr(t, "Cond", err, ownErr, want, c, bound)
		if len(got) != 0 || len(own) != 0 {
			t.Errorf("Cond(%s, %q) = %q, %q beside an error", short(c), bound, got, own)
		}
	}, l, c, bound)
}

// spelledAll tells all that some things have, their lists' spare room, too.
func spelledAll(l []any) string {
	s := ""
	for _, x := range l {
		s += spelled(reflect.ValueOf(x)) + "\n"
	}
	return s
}

func spelled(v reflect.Value) string {
	s := ""
	switch v.Kind() {
	case reflect.Slice:
		s = strconv.Itoa(v.Len()) + "/" + strconv.Itoa(v.Cap())
		for i := range v.Cap() {
			s += "[" + spelled(v.Slice(0, v.Cap()).Index(i)) + "]"
		}
	case reflect.Struct:
		for i := range v.NumField() {
			s += "{" + spelled(v.Field(i)) + "}"
		}
	case reflect.String:
		s = strconv.Quote(v.String())
	case reflect.Bool:
		s = strconv.FormatBool(v.Bool())
	case reflect.Int:
		s = strconv.FormatInt(v.Int(), 10)
	default:
		s = strconv.FormatUint(v.Uint(), 10)
	}
	return s
}

// short tells the beginning of a thing.
func short(x any) string { return fmt.Sprintf("%.400s", fmt.Sprintf("%+v", x)) }
