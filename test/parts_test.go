package test

import (
	"testing"

	"intarsia/api"
)

// P20.4: each Var once, in the order of first places, of one attribute and over
// several.
func TestVars(t *testing.T) {
	x, y, z, v := like(0, "x"), like(1, "y"), like(200, "z"), by(0, number(1))
	wantVars(t, api.Cond{})
	wantVars(t, condOf("c"))
	wantVars(t, condOf("c", asks("p"), asksOne("q", vals(symbol("x")))))
	wantVars(t, condOf("c", asks("p", v, v), asks("q", by(4, symbol("x")))))
	wantVars(t, condOf("c", asks("p", x)), "x")
	wantVars(t, condOf("c", asks("p", x, x, x)), "x")
	wantVars(t, condOf("c", asks("p", x, y, z)), "x", "y", "z")
	wantVars(t, condOf("c", asks("p", z, y, x)), "z", "y", "x")
	wantVars(t, condOf("c", asks("p", y, x, y, x, z, y)), "y", "x", "z")
	wantVars(t, condOf("c", asks("p", x), asks("q", x)), "x")
	wantVars(t, condOf("c", asks("p", x), asks("q", y), asks("p", x)), "x", "y")
	wantVars(t, condOf("c", asks("p", z), asks("q", y, z), asks("r", x, y, z)), "z", "y", "x")
	wantVars(t, condOf("c", asks("p", v, z, v), asks("q"), asksOne("r", vals(none), y, v, x)), "z", "y", "x")
	wantVars(t, read("-(c ^p { <x> > <y> } ^q << 1 2 >> ^r <> <x> ^s <z>)"), "x", "y", "z")
}

// P20.4: any name is a variable's but the empty one; a Val beside it is no matter, and
// names that are unlike by a byte are two.
func TestVarsNames(t *testing.T) {
	wantVars(t, condOf("c", asks("p", like(0, ""), like(3, ""))))
	wantVars(t, condOf("c", asks("p", like(0, "x"), like(0, ""), like(0, "X"), like(0, "x "), like(0, "\xff"), like(0, "\xfe"), like(0, "x"))), "x", "X", "x ", "\xff", "\xfe")
	wantVars(t, condOf("x", asks("x", api.Test{Var: "y", Val: symbol("x")}), asksOne("y", vals(symbol("x")))), "y")
}

// P20.4: 1, one more for each test, and for each attribute with Ones.
func TestTests(t *testing.T) {
	x, v := like(0, "x"), by(4, number(1))
	one, many := vals(none), vals(number(1), number(1), symbol("a"))
	wantTests(t, api.Cond{}, 1)
	wantTests(t, condOf("c"), 1)
	wantTests(t, condOf("c", asks("p"), asks("q"), asksOne("r", vals(), tests()...)), 1)
	wantTests(t, condOf("c", asksOne("p", one)), 2)
	wantTests(t, condOf("c", asksOne("p", many)), 2)
	wantTests(t, condOf("c", asksOne("p", many), asksOne("p", one), asksOne("q", many)), 4)
	wantTests(t, condOf("c", asks("p", x)), 2)
	wantTests(t, condOf("c", asks("p", v)), 2)
	wantTests(t, condOf("c", asks("p", v, x, v, v)), 5)
	wantTests(t, condOf("c", asks("p", v, x), asks("q", x, x, x)), 6)
	wantTests(t, condOf("c", asksOne("p", one, x)), 3)
	wantTests(t, condOf("c", asksOne("p", many, x, v)), 4)
	wantTests(t, condOf("c", asksOne("p", many, x, v), asks("q"), asks("r", v), asksOne("q", one)), 6)
	wantTests(t, condOf("c", asks("p", api.Test{}, api.Test{Pred: 255})), 3)
	wantTests(t, read("-(c ^p { <x> > 1 < 5 } ^q << 1 2 >> ^r <> <x>)"), 6)
	for n := range 50 {
		c := condOf("c")
		for i := range n {
			c.Attrs = append(c.Attrs, asksOne("p", make([]api.Value, i%3), make([]api.Test, i%2)...))
		}
		wantTests(t, c, ownTests(c))
	}
}

// P20.4: the same are lists of one length, with the same names and values in the same
// order; nothing is the same as an empty list.
func TestSame(t *testing.T) {
	x, y := is("x", number(1)), is("y", symbol("a"))
	wantSame(t, nil, nil, true)
	wantSame(t, nil, binds(), true)
	if !Same(nil, binds()) || !Same(binds(), nil) || !Same(nil, nil) {
		t.Error("nothing is not the same as an empty list")
	}
	for _, l := range [][]api.Bound{{x}, {x, y}, {x, x}, {x, y, x}, {is("", none)}, {{}}} {
		wantSame(t, l, append(binds(), l...), true)
		wantSame(t, l, nil, false)
		wantSame(t, l, append(binds(x), l...), false)
		wantSame(t, l, append(binds(l...), x), false)
		wantSame(t, l, append(binds(l...), api.Bound{}), false)
	}
	wantSame(t, binds(x, y), binds(y, x), false)
	wantSame(t, binds(x, y, x), binds(x, x, y), false)
	wantSame(t, binds(x, y), binds(x, x), false)
	wantSame(t, binds(x, y), binds(y, y), false)
}

// P20.4: each field counts, at each place.
func TestSameFields(t *testing.T) {
	for _, v := range append(rightValues(), wrongValues()...) {
		b := is("x", v)
		others := binds(is("y", v), is("", v), is("X", v), is("x", api.Value{Kind: v.Kind + 1, N: v.N, S: v.S}), is("x", api.Value{Kind: v.Kind ^ 128, N: v.N, S: v.S}),
			is("x", api.Value{Kind: v.Kind, N: v.N + 1, S: v.S}), is("x", api.Value{Kind: v.Kind, N: v.N ^ -1<<63, S: v.S}), is("x", api.Value{Kind: v.Kind, N: v.N, S: v.S + "a"}))
		for at := range 3 {
			l, m := binds(b, b, b), binds(b, b, b)
			wantSame(t, l, m, true)
			for _, other := range others {
				m[at] = other
				wantSame(t, l, m, false)
			}
		}
	}
}
