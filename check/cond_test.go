package check

import (
	"slices"
	"strings"
	"testing"

	"intarsia/api"
)

// P17.3: what is bound behind a condition, told by its text.
func TestCondBound(t *testing.T) {
	for _, x := range []struct{ text, bound, want string }{
		{"(c)", "", ""},
		{"(c)", "x y", "x y"},
		{"(c ^p 1 ^q nil)", "x", "x"},
		{"(c ^q 1)", "", ""},
		{"(c ^q 1 ^p 2)", "", ""},
		{"(d ^q <y>)", "", "y"},
		{"(c ^p <x>)", "", "x"},
		{"(c ^p <x> ^q <y>)", "", "x y"},
		{"(c ^p <y> ^q <x>)", "", "y x"},
		{"(c ^p <y> ^q <x>)", "z a", "z a y x"},
		{"(c ^p <x> ^q <x>)", "", "x"},
		{"(c ^p <x> ^q <x>)", "x", "x"},
		{"(c ^p <x> ^q <y>)", "y x", "y x"},
		{"(c ^p <x> ^q <y>)", "y z", "y z x"},
		{"(c ^p { <x> <y> <x> <z> })", "y", "y x z"},
		{"(c ^p { <x> > <x> })", "", "x"},
		{"(c ^p <x> ^q > <x>)", "", "x"},
		{"(c ^p <x> ^q { <y> <> <x> < <y> >= <x> <= <y> })", "", "x y"},
		{"(c ^p { > 1 <x> <> nil } ^q { < 5 <= <x> })", "", "x"},
		{"(c ^p << 1 a nil >> ^q <x>)", "", "x"},
		{"-(c)", "", ""},
		{"-(c ^p <x>)", "", ""},
		{"-(c ^p <x>)", "y", "y"},
		{"-(c ^p <x> ^q > <x>)", "", ""},
		{"-(c ^p <x> ^q { <y> > <x> })", "y z", "y z"},
		{"-(c ^p <x> ^q > <y>)", "x y", "x y"},
	} {
		wantBound(t, twoClasses(), of(x.text), strings.Fields(x.bound), strings.Fields(x.want))
	}
}

// P17.3: each pred, with a variable that is bound, by what was handed in or
// within the condition, and with one that is not; also preds that are none.
func TestCondPreds(t *testing.T) {
	x := tests("p", ofVar(0, "x"))
	for pred := range 256 {
		test := ofVar(uint8(pred), "x")
		for _, neg := range []bool{false, true} {
			alone, behind := condOf("c", tests("q", test)), condOf("c", x, tests("q", test))
			within := condOf("c", tests("p", ofVar(0, "x"), test))
			alone.Neg, behind.Neg, within.Neg = neg, neg, neg
			bound := []string{"y", "x"}
			if neg {
				bound = []string{"y"}
			}
			wantBound(t, twoClasses(), alone, []string{"x"}, []string{"x"})
			wantBound(t, twoClasses(), behind, []string{"y"}, bound)
			wantBound(t, twoClasses(), within, []string{"y"}, bound)
			if pred == 0 {
				wantBound(t, twoClasses(), alone, []string{"y"}, bound)
			} else {
				wantNone(t, twoClasses(), alone, []string{"y"}, api.ErrVar)
			}
		}
	}
}

// P17.3: a test without a variable binds nothing and asks for none, whatever its
// pred is, and also where the empty name is bound.
func TestCondWithoutVar(t *testing.T) {
	for pred := range 256 {
		c := condOf("c", tests("p", api.Test{Pred: uint8(pred), Val: api.Value{Kind: 1, N: 3}}))
		wantBound(t, twoClasses(), c, nil, nil)
		wantBound(t, twoClasses(), c, []string{"x"}, []string{"x"})
		wantBound(t, twoClasses(), c, []string{"", "x"}, []string{"", "x"})
	}
}

// P17.3: a variable's value is not asked; tests beside values count, too.
func TestCondOddTests(t *testing.T) {
	odd := api.Test{Var: "x", Val: api.Value{Kind: 255, N: -1, S: "x"}}
	wantBound(t, twoClasses(), condOf("c", tests("p", odd)), nil, []string{"x"})
	both := api.AttrTest{Attr: "p", Ones: []api.Value{{Kind: 9}}, Tests: []api.Test{ofVar(0, "y")}}
	wantBound(t, twoClasses(), condOf("c", both), nil, []string{"y"})
	both.Tests[0].Pred = 1
	wantNone(t, twoClasses(), condOf("c", both), nil, api.ErrVar)
	wantBound(t, twoClasses(), condOf("c", tests("p"), tests("q")), []string{"z"}, []string{"z"})
	wantBound(t, twoClasses(), condOf("c", tests("p", ofVar(0, "\xff"), ofVar(0, " "))), nil, []string{"\xff", " "})
}

// P17.3: bound variables that stand twice, or are the empty name, stay as they
// were handed in.
func TestCondOddBound(t *testing.T) {
	bound := []string{"x", "", "x", "y", "", "y"}
	wantBound(t, twoClasses(), of("(c)"), bound, bound)
	wantBound(t, twoClasses(), of("-(c ^p <z>)"), bound, bound)
	wantBound(t, twoClasses(), of("-(c ^p <x>)"), bound, bound)
	wantBound(t, twoClasses(), of("(c ^p <x> ^q <z>)"), bound, append(slices.Clone(bound), "z"))
	wantBound(t, twoClasses(), of("(c ^p > <x> ^q < <y>)"), bound, bound)
	wantNone(t, twoClasses(), of("(c ^p > <z>)"), bound, api.ErrVar)
}

// P17.3: ErrClass, ahead of all else.
func TestCondClass(t *testing.T) {
	for _, text := range []string{"(e)", "-(e)", "(e ^p 1)", "(e ^z <x> ^z > <y>)", "(p)", "(C)"} {
		wantNone(t, twoClasses(), of(text), []string{"z"}, api.ErrClass)
		wantNone(t, nil, of(text), nil, api.ErrClass)
	}
	wantNone(t, twoClasses(), condOf(""), nil, api.ErrClass)
	wantBound(t, []api.Class{classOf("", "")}, condOf("", tests("", ofVar(0, "x"))), nil, []string{"x"})
}

// P17.3: of two classes of one name the first counts.
func TestCondFirstClass(t *testing.T) {
	l := []api.Class{classOf("c", "p", "p"), classOf("d", "s"), classOf("c", "q"), classOf("d")}
	wantBound(t, l, of("(c ^p <x>)"), nil, []string{"x"})
	wantNone(t, l, of("(c ^q <x>)"), nil, api.ErrAttr)
	wantBound(t, l, of("(d ^s <x>)"), nil, []string{"x"})
	wantNone(t, l, of("(c ^p 1 ^p 2)"), nil, api.ErrThere)
}

// P17.3: ErrAttr, ErrThere and ErrVar, the one that is met first; and of a
// negated condition, too.
func TestCondErrors(t *testing.T) {
	for text, want := range map[string]api.Errno{
		"(d ^p 1)":                       api.ErrAttr,
		"(d ^q 1 ^p 2)":                  api.ErrAttr,
		"(d ^p 1 ^q 2)":                  api.ErrAttr,
		"(d ^d 1)":                       api.ErrAttr,
		"(d ^q 1 ^q 2)":                  api.ErrThere,
		"(c ^p 1 ^q 2 ^p 3)":             api.ErrThere,
		"(c ^p 1 ^q 2 ^q 3)":             api.ErrThere,
		"(d ^q 1 ^q 2 ^p 3)":             api.ErrThere,
		"(d ^q 1 ^p 3 ^q 2)":             api.ErrAttr,
		"(d ^p 1 ^p 2)":                  api.ErrAttr,
		"(d ^p 1 ^q 2 ^q 3)":             api.ErrAttr,
		"(d ^q > <x>)":                   api.ErrVar,
		"(c ^p <> <x> ^q <x>)":           api.ErrVar,
		"(c ^p { > <x> <x> })":           api.ErrVar,
		"(c ^p { <x> > <y> } ^q <y>)":    api.ErrVar,
		"(c ^p <x> ^q > <y>)":            api.ErrVar,
		"(d ^q > <x> ^q 1)":              api.ErrVar,
		"(d ^q 1 ^q > <x>)":              api.ErrThere,
		"(d ^q > <x> ^p 1)":              api.ErrVar,
		"(d ^p > <x> ^q 1)":              api.ErrAttr,
		"(d ^q <x> ^p > <y>)":            api.ErrAttr,
		"(c ^p <x> ^q > <x> ^p > <y>)":   api.ErrThere,
		"(c ^p <x> ^q { <x> >= <y> })":   api.ErrVar,
		"(c ^p << 1 >> ^q 2 ^p << 3 >>)": api.ErrThere,
	} {
		wantNone(t, twoClasses(), of(text), nil, want)
		wantNone(t, twoClasses(), of("-"+text), nil, want)
		wantNone(t, twoClasses(), of(text), []string{"z", "", "z"}, want)
		wantNone(t, twoClasses(), of("-"+text), []string{"z"}, want)
	}
	wantNone(t, twoClasses(), condOf("c", tests("")), nil, api.ErrAttr)
	wantNone(t, []api.Class{classOf("c", "")}, condOf("c", tests(""), tests("")), nil, api.ErrThere)
}

// P17.3 and rule 3: what is answered may be changed, its spare room, too,
// without changing what was handed in, or another answer.
func TestCondIsNew(t *testing.T) {
	for _, text := range []string{"(c)", "-(c)", "-(c ^p <z>)", "(c ^p <x>)", "(c ^p <z>)", "(c ^p <z> ^q <a>)"} {
		l, c, bound := twoClasses(), of(text), append(make([]string, 0, 9), "x", "y")
		kept(t, func() {
			got, _ := Cond(l, c, bound)
			other, _ := Cond(l, c, bound)
			was := slices.Clone(other)
			for i := range got[:cap(got)] {
				got[:cap(got)][i] = "changed"
			}
			if !slices.Equal(other, was) {
				t.Errorf("%s: two answers share a list: %q", text, other)
			}
		}, l, c, bound)
	}
}
