package show

import (
	"testing"

	"intarsia/api"
	"intarsia/value"
)

// The chapter's example.
func TestExampleTest(t *testing.T) {
	wantTest(t, tests("b", ofVal(value.More, num(3))), "^b > 3")
}

// P16.2: each pred with a Var, and with a Val; Is without a sign.
func TestPreds(t *testing.T) {
	for i, sign := range signs() {
		pred := uint8(i)
		wantTest(t, tests("b", ofVar(pred, "x")), "^b "+sign+"<x>")
		wantTest(t, tests("b", ofVal(pred, num(-3))), "^b "+sign+"-3")
		wantTest(t, tests("b", ofVal(pred, sym("y"))), "^b "+sign+"y")
		wantTest(t, tests("b", ofVal(pred, api.Value{})), "^b "+sign+"nil")
		wantTest(t, tests("b", ofVar(pred, "x"), ofVal(pred, num(1))), "^b { "+sign+"<x> "+sign+"1 }")
	}
	for kind, sign := range map[uint8]string{value.IsNot: "<>", value.Less: "<", value.Most: "<=", value.More: ">", value.Least: ">="} {
		wantTest(t, tests("b", ofVar(kind, "x")), "^b "+sign+" <x>")
	}
	wantTest(t, tests("b", ofVar(value.Is, "x")), "^b <x>")
}

// P16.2: a pred that is none isn't Is: its sign is empty, and its blank is there.
func TestNoPreds(t *testing.T) {
	for pred := 6; pred < 256; pred++ {
		wantTest(t, tests("b", ofVar(uint8(pred), "x")), "^b  <x>")
		wantTest(t, tests("b", ofVal(uint8(pred), num(1))), "^b  1")
		wantTest(t, tests("b", ofVal(uint8(pred), num(1)), ofVar(uint8(pred), "x")), "^b {  1  <x> }")
	}
}

// P16.2: a Var that is not empty goes ahead of a Val.
func TestVarAndVal(t *testing.T) {
	wantTest(t, tests("b", api.Test{Var: "x", Val: num(3)}), "^b <x>")
	wantTest(t, tests("b", api.Test{Pred: 2, Var: "x", Val: num(3)}), "^b < <x>")
	wantTest(t, tests("b", api.Test{Var: " "}), "^b < >")
	wantTest(t, tests("b", api.Test{Var: "nil"}), "^b <nil>")
	wantTest(t, tests("b", api.Test{}), "^b nil")
}

// P16.2: no single test, one, and more.
func TestTests(t *testing.T) {
	wantTest(t, api.AttrTest{}, "^ { }")
	wantTest(t, tests("b"), "^b { }")
	wantTest(t, api.AttrTest{Attr: "b", Ones: []api.Value{}, Tests: []api.Test{}}, "^b { }")
	wantTest(t, tests("b", ofVal(0, num(1))), "^b 1")
	wantTest(t, tests("b", ofVal(0, num(1)), ofVal(0, num(1))), "^b { 1 1 }")
	wantTest(t, tests("b", ofVal(4, num(3)), ofVar(1, "x")), "^b { > 3 <> <x> }")
	wantTest(t, tests("b", ofVar(1, "x"), ofVal(4, num(3)), ofVar(0, "y")), "^b { <> <x> > 3 <y> }")
	var l []api.Test
	want := "^b {"
	for range 20 {
		l, want = append(l, ofVal(5, num(7))), want+" >= 7"
	}
	wantTest(t, tests("b", l...), want+" }")
}

// P16.2: one of Ones, several; and whatever Tests are beside them.
func TestOnes(t *testing.T) {
	wantTest(t, ones("b", num(1)), "^b << 1 >>")
	wantTest(t, ones("b", api.Value{}), "^b << nil >>")
	wantTest(t, ones("b", num(1), sym("y"), api.Value{}, num(-most)), "^b << 1 y nil -1099511627776 >>")
	wantTest(t, ones("b", sym("y"), sym("y")), "^b << y y >>")
	for n := range 4 {
		a := ones("b", sym("y"), num(1))
		for range n {
			a.Tests = append(a.Tests, ofVar(4, "x"))
		}
		wantTest(t, a, "^b << y 1 >>")
	}
	wantTest(t, api.AttrTest{Attr: "b", Ones: []api.Value{}, Tests: []api.Test{ofVar(0, "x")}}, "^b <x>")
}

// P16.2: values that may not be, as value.Text tells them.
func TestNoValuesAsked(t *testing.T) {
	for _, v := range noValues() {
		wantTest(t, ones("b", v, num(1), v), "^b << nil 1 nil >>")
		wantTest(t, tests("b", ofVal(0, v)), "^b nil")
		wantTest(t, tests("b", ofVal(2, v), ofVal(0, v)), "^b { < nil nil }")
	}
}

// P16.2: an Attr stands as it is, an empty one, too.
func TestAttrs(t *testing.T) {
	for _, attr := range []string{"", "b", "a-b", "12", "nil", "a b", "^", "\xff", "\n"} {
		wantTest(t, tests(attr, ofVar(0, "x")), "^"+attr+" <x>")
		wantTest(t, tests(attr), "^"+attr+" { }")
		wantTest(t, ones(attr, num(1)), "^"+attr+" << 1 >>")
	}
}

// P16.2: Neg and not, with no attributes, one and several.
func TestConds(t *testing.T) {
	one := tests("b", ofVal(4, num(3)))
	two := ones("c", num(1), sym("y"))
	for ahead, make := range map[string]func(string, ...api.AttrTest) api.Cond{"": condOf, "-": negated} {
		wantCond(t, make("k"), ahead+"(k)")
		wantCond(t, make("k", one), ahead+"(k ^b > 3)")
		wantCond(t, make("k", one, two), ahead+"(k ^b > 3 ^c << 1 y >>)")
		wantCond(t, make("k", two, one, one), ahead+"(k ^c << 1 y >> ^b > 3 ^b > 3)")
		wantCond(t, make("k", tests("b"), api.AttrTest{}), ahead+"(k ^b { } ^ { })")
		wantCond(t, make("k", tests("b", ofVar(0, "x"), ofVar(1, "y")), one), ahead+"(k ^b { <x> <> <y> } ^b > 3)")
	}
	wantCond(t, api.Cond{Class: "k", Attrs: []api.AttrTest{}}, "(k)")
}

// P16.2: a Class stands as it is, an empty one, too.
func TestClassesOfConds(t *testing.T) {
	for _, class := range []string{"", "k", "12", "nil", "a b", "-", "(", "\xff"} {
		wantCond(t, condOf(class), "("+class+")")
		wantCond(t, negated(class), "-("+class+")")
		wantCond(t, negated(class, tests("b", ofVar(0, "x"))), "-("+class+" ^b <x>)")
	}
}
