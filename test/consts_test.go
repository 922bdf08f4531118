package test

import (
	"testing"

	"intarsia/api"
)

// P20.3: tests with a Var fall away, wherever they stand; the others stay in their
// order, with all that they have.
func TestConstsTests(t *testing.T) {
	x, y := like(0, "x"), api.Test{Pred: 4, Var: "\xff", Val: number(5)}
	a, b, c := by(0, number(1)), by(4, symbol("a")), by(255, api.Value{Kind: 9, N: -1, S: "\x00"})
	for _, p := range []struct{ l, want []api.Test }{
		{tests(x, a, b), tests(a, b)},
		{tests(a, x, b), tests(a, b)},
		{tests(a, b, x), tests(a, b)},
		{tests(x, y, a), tests(a)},
		{tests(x, a, y), tests(a)},
		{tests(a, x, y), tests(a)},
		{tests(x, a, y, b, x, c, y), tests(a, b, c)},
		{tests(a, x, b, y, c), tests(a, b, c)},
		{tests(c, b, a), tests(c, b, a)},
		{tests(a, a, x, a), tests(a, a, a)},
		{tests(by(0, none), x), tests(by(0, none))},
		{tests(api.Test{}, y), tests(api.Test{})},
	} {
		wantConsts(t, condOf("c", asks("p", p.l...)), condOf("c", asks("p", p.want...)))
		wantConsts(t, condOf("c", asksOne("p", vals(none), p.l...)), condOf("c", asksOne("p", vals(none), p.want...)))
		wantConsts(t, condOf("c", asks("q", a), asks("p", p.l...), asks("r", b)), condOf("c", asks("q", a), asks("p", p.want...), asks("r", b)))
	}
}

// P20.3: an attribute with neither Ones nor tests then falls away, wherever it stands;
// with Ones alone it stays.
func TestConstsAttrs(t *testing.T) {
	x, y := like(0, "x"), like(1, "y")
	p, q := asks("p", by(0, none)), asksOne("q", vals(number(1), symbol("a"), number(1)))
	for _, gone := range []api.AttrTest{asks("p", x), asks("q", x, y, x), asks("z"), asks(""), asksOne("p", vals(), tests()...)} {
		wantConsts(t, condOf("c", gone), condOf("c"))
		wantConsts(t, condOf("c", gone, gone), condOf("c"))
		wantConsts(t, condOf("c", gone, p, q), condOf("c", p, q))
		wantConsts(t, condOf("c", p, gone, q), condOf("c", p, q))
		wantConsts(t, condOf("c", q, p, gone), condOf("c", q, p))
		wantConsts(t, condOf("c", gone, q, gone, p, gone, gone), condOf("c", q, p))
	}
	wantConsts(t, condOf("c", asksOne("p", vals(none), x)), condOf("c", asksOne("p", vals(none))))
	wantConsts(t, condOf("c", asksOne("p", vals(none), x, y), asks("p", y), asksOne("p", vals(number(1)))), condOf("c", asksOne("p", vals(none)), asksOne("p", vals(number(1)))))
	wantConsts(t, condOf("c", p, p, q, p), condOf("c", p, p, q, p))
}

// P20.3: the class stays as it is, Ones and values, too, also such as may not be; and
// Neg falls.
func TestConstsRest(t *testing.T) {
	wantConsts(t, api.Cond{}, api.Cond{})
	wantConsts(t, api.Cond{Neg: true}, api.Cond{})
	for _, name := range names("", "c", "\xff", "a b", "nil") {
		wantConsts(t, condOf(name), condOf(name))
		c := condOf(name, asksOne(name, append(rightValues(), wrongValues()...)), asks(name, by(9, api.Value{Kind: 200, N: -1 << 63, S: name})))
		wantConsts(t, c, c)
		wantConsts(t, negated(c), c)
	}
}

// P20.3: conditions by their texts.
func TestConstsTexts(t *testing.T) {
	for text, want := range map[string]string{
		"(c)":                                   "(c)",
		"-(c ^p <x>)":                           "(c)",
		"(c ^p <x> ^q > <x>)":                   "(c)",
		"-(c ^p { <x> > 1 } ^q << 1 a >>)":      "(c ^p > 1 ^q << 1 a >>)",
		"(c ^p { > 1 <x> < 3 <> <y> } ^q <y>)":  "(c ^p { > 1 < 3 })",
		"(c ^p 1 ^q <x> ^r a)":                  "(c ^p 1 ^r a)",
		"(c ^q <x> ^p << 1 >> ^r { <x> <> 2 })": "(c ^p << 1 >> ^r <> 2)",
	} {
		wantConsts(t, read(text), read(want))
	}
}

// P20.3: Passes is Match of Consts with nothing bound: told of each fact and
// condition.
func TestPasses(t *testing.T) {
	v, x := by(0, number(1)), like(0, "x")
	for _, p := range []struct {
		c    api.Cond
		want bool
	}{
		{condOf("c"), true},
		{condOf("d"), false},
		{condOf("c", asks("p", v)), true},
		{condOf("c", asks("q", v)), false},
		{condOf("c", asks("q", x)), true},
		{condOf("c", asks("p", x, v)), true},
		{condOf("c", asks("q", x, v)), false},
		{condOf("c", asks("q", v, x)), false},
		{condOf("c", asks("p", x), asks("q", x)), true},
		{condOf("c", asks("p", x, like(1, "x"))), true},
		{condOf("c", asks("p", like(5, "none"), like(99, "x"))), true},
		{condOf("c", asks("p", like(5, "none")), asks("q", v)), false},
		{condOf("c", asksOne("q", vals(number(1)), x)), false},
		{condOf("c", asksOne("q", vals(number(1), symbol("a")), x)), true},
	} {
		wantPasses(t, three(), p.c, one(), p.want)
		wantPasses(t, three(), negated(p.c), one(), p.want)
		f := one()
		f.Tag = 0
		wantPasses(t, three(), p.c, f, false)
		wantPasses(t, nil, p.c, one(), false)
	}
}

// P20.2 and P20.3, word by word: an attribute of which nothing is asked falls away, so
// it need not be there for what passes; it has to be for what matches.
func TestPassesWithoutAttr(t *testing.T) {
	for _, a := range []api.AttrTest{asks("z"), asks("z", like(0, "x")), asksOne("z", vals())} {
		wantPasses(t, three(), condOf("c", a), one(), true)
		wantPasses(t, three(), condOf("c", asks("p", by(0, number(1))), a), one(), true)
		wantNotMatch(t, three(), condOf("c", a), one(), nil)
	}
	wantRefused(t, three(), condOf("c", asks("z", by(1, number(1)))), one())
}
