package test

import (
	"slices"
	"strconv"
	"testing"

	"intarsia/api"
)

// P20.2: a variable is bound at its first place, and asked at a second one: within
// one attribute, over two, and where an attribute stands twice in the condition.
func TestBoundOnce(t *testing.T) {
	for _, v := range sides() {
		for _, w := range sides() {
			f := fact(1, "c", v, w, none)
			for pred := range uint8(7) {
				x, y := like(0, "x"), like(pred, "x")
				for _, p := range []struct {
					c    api.Cond
					want bool
				}{
					{condOf("c", asks("p", x, y)), ownHolds(pred, v, v)},
					{condOf("c", asks("p", x), asks("q", y)), ownHolds(pred, w, v)},
					{condOf("c", asks("q", x), asks("p", y)), ownHolds(pred, v, w)},
					{condOf("c", asks("p", x), asks("p", y)), ownHolds(pred, v, v)},
					{condOf("c", asks("p", x), asks("q", by(0, w)), asks("p", y)), ownHolds(pred, v, v)},
					{condOf("c", asks("p", x), asks("q"), asks("r", by(0, none)), asks("q", y)), ownHolds(pred, w, v)},
					{condOf("c", asks("p", by(0, v), x), asks("q", by(0, w), y, by(0, w))), ownHolds(pred, w, v)},
				} {
					first := v
					if p.c.Attrs[0].Attr == "q" {
						first = w
					}
					wantTold(t, p.c, f, nil, binds(is("x", first)), p.want)
				}
			}
		}
	}
}

// wantTold asks that a fact of c, d or e matches, and what is bound then; or that it
// does not.
func wantTold(t *testing.T, c api.Cond, f api.Fact, bound, want []api.Bound, ok bool) {
	t.Helper()
	if ok {
		wantMatch(t, three(), c, f, bound, want)
	} else {
		wantNotMatch(t, three(), c, f, bound)
	}
}

// P20.2: what is bound stands in the order of its first places, behind what was bound
// ahead, which stays as it is.
func TestBoundOrder(t *testing.T) {
	v, a, w := number(1), symbol("a"), number(3)
	x, y, z := like(0, "x"), like(0, "y"), like(0, "z")
	for _, b := range [][]api.Bound{nil, {is("w", none)}, {is("w", none), is("", v), is("w", w), is("u", api.Value{Kind: 9})}} {
		behind := func(l ...api.Bound) []api.Bound { return slices.Concat(b, l) }
		for _, p := range []struct {
			c    api.Cond
			want []api.Bound
		}{
			{condOf("c", asks("p", x), asks("q", y), asks("r", z)), behind(is("x", v), is("y", a), is("z", w))},
			{condOf("c", asks("r", x), asks("q", y), asks("p", z)), behind(is("x", w), is("y", a), is("z", v))},
			{condOf("c", asks("p", z), asks("q", y), asks("r", x)), behind(is("z", v), is("y", a), is("x", w))},
			{condOf("c", asks("q", z, x, y)), behind(is("z", a), is("x", a), is("y", a))},
			{condOf("c", asks("q", x, x, x)), behind(is("x", a))},
			{condOf("c", asks("q", y, x, y), asks("q", x, y, z)), behind(is("y", a), is("x", a), is("z", a))},
			{condOf("c", asks("r", by(4, v), x, like(1, "y"))), nil},
			{condOf("c", asks("r", by(4, v), x), asksOne("p", vals(v), y), asks("r", like(4, "y"), x)), behind(is("x", w), is("y", v))},
		} {
			wantTold(t, p.c, one(), b, p.want, p.want != nil)
		}
	}
}

// P20.2: a variable that was bound ahead is asked, not bound again; of two of its
// name the first one is.
func TestBoundAhead(t *testing.T) {
	for _, v := range sides() {
		for _, w := range sides() {
			f := fact(1, "c", none, w, none)
			for pred := range uint8(7) {
				for _, b := range [][]api.Bound{{is("x", v)}, {is("x", v), is("x", w)}, {is("y", w), is("x", v), is("y", none), is("x", w), is("x", number(8))}} {
					c := condOf("c", asks("q", like(pred, "x")))
					wantTold(t, c, f, b, b, ownHolds(pred, w, v))
					c = condOf("c", asks("q", like(0, "new"), like(pred, "x")))
					wantTold(t, c, f, b, append(slices.Clone(b), is("new", w)), ownHolds(pred, w, v))
				}
			}
		}
	}
}

// P20.2: bound to Nothing is bound, ahead and here.
func TestBoundNothing(t *testing.T) {
	f := fact(1, "c", none, none, number(0))
	x := like(0, "x")
	wantMatch(t, three(), condOf("c", asks("p", x)), f, nil, binds(is("x", none)))
	wantMatch(t, three(), condOf("c", asks("p", x), asks("q", x), asks("r", like(1, "x"))), f, nil, binds(is("x", none)))
	wantNotMatch(t, three(), condOf("c", asks("p", x), asks("r", x)), f, nil)
	wantNotMatch(t, three(), condOf("c", asks("r", x)), f, binds(is("x", none)))
	wantMatch(t, three(), condOf("c", asks("q", x)), f, binds(is("x", none)), binds(is("x", none)))
}

// P20.2: what was bound ahead and may be no value is bound, too.
func TestBoundWrong(t *testing.T) {
	for _, v := range wrongValues() {
		b := binds(is("x", v))
		wantNotMatch(t, three(), condOf("c", asks("p", like(0, "x"))), one(), b)
		wantMatch(t, three(), condOf("c", asks("p", like(1, "x"))), one(), b, b)
		wantMatch(t, three(), condOf("c", asks("p", like(0, "y"))), one(), b, binds(is("x", v), is("y", number(1))))
	}
	b := binds(is("x", api.Value{Kind: 1, N: 1, S: "a"}))
	wantMatch(t, three(), condOf("c", asks("p", like(3, "x"))), one(), b, b)
}

// P20.2: a variable whose name is empty is none: the test is one by its Val, and
// nothing is bound.
func TestEmptyName(t *testing.T) {
	wantMatch(t, three(), condOf("c", asks("p", like(1, ""))), one(), nil, nil)
	wantNotMatch(t, three(), condOf("c", asks("p", like(0, ""))), one(), nil)
	wantNotMatch(t, three(), condOf("c", asks("p", like(0, ""))), one(), binds(is("", number(1))))
	wantMatch(t, three(), condOf("c", asks("p", by(0, number(1)))), one(), binds(is("", none)), binds(is("", none)))
}

// P20.2: names are bytes: any but the empty one is a variable's.
func TestNames(t *testing.T) {
	for _, name := range names("x", "X", " ", "\x00", "\xff", "é", "nil", "1", "p", "c") {
		v := is(name, number(1))
		wantMatch(t, three(), condOf("c", asks("p", like(0, name))), one(), nil, binds(v))
		wantMatch(t, three(), condOf("c", asks("p", like(0, name))), one(), binds(v), binds(v))
		wantMatch(t, three(), condOf("c", asks("p", like(0, name+" "))), one(), binds(v), binds(v, is(name+" ", number(1))))
		wantNotMatch(t, three(), condOf("c", asks("r", like(0, name))), one(), binds(v))
	}
}

// P20.2: a Val beside a Var counts for nothing.
func TestValBesideVar(t *testing.T) {
	for _, v := range append(sides(), wrongValues()...) {
		x := api.Test{Var: "x", Val: v}
		wantMatch(t, three(), condOf("c", asks("p", x)), one(), nil, binds(is("x", number(1))))
		wantMatch(t, three(), condOf("c", asks("p", x, x)), one(), nil, binds(is("x", number(1))))
		wantNotMatch(t, three(), condOf("c", asks("p", x)), one(), binds(is("x", number(2))))
		x.Pred = 4
		wantNotMatch(t, three(), condOf("c", asks("p", x)), one(), nil)
		wantMatch(t, three(), condOf("c", asks("p", x)), one(), binds(is("x", number(0))), binds(is("x", number(0))))
	}
}

// P20.2: without attributes a condition asks for the class alone, and an attribute
// with neither Ones nor tests to be there.
func TestNothingAsked(t *testing.T) {
	for _, b := range [][]api.Bound{nil, {is("x", number(1))}, {is("x", number(1)), is("x", none)}} {
		wantMatch(t, three(), condOf("c"), one(), b, b)
		wantMatch(t, three(), api.Cond{Class: "c", Attrs: []api.AttrTest{}}, one(), b, b)
		wantMatch(t, three(), condOf("c", asks("p"), asks("r"), asks("p")), one(), b, b)
		wantMatch(t, three(), condOf("c", asksOne("p", vals(), tests()...)), one(), b, b)
		wantMatch(t, three(), condOf("e"), fact(1, "e"), b, b)
		wantNotMatch(t, three(), condOf("d"), one(), b)
	}
}

// P20.2: of an attribute that stands twice in its class the first place counts, for
// tests, for Ones and for what is bound.
func TestAttrTwice(t *testing.T) {
	l := classes(classIs("c", "q", "p", "p", "q", "p"))
	f := fact(1, "c", number(1), number(2), number(3), number(4), number(5))
	wantMatch(t, l, condOf("c", asks("p", like(0, "x")), asks("q", like(0, "y"))), f, nil, binds(is("x", number(2)), is("y", number(1))))
	wantMatch(t, l, condOf("c", asks("p", like(0, "x")), asks("p", like(0, "x"))), f, nil, binds(is("x", number(2))))
	wantMatch(t, l, condOf("c", asks("p", by(0, number(2))), asksOne("q", vals(number(1)))), f, nil, nil)
	for n := 3; n < 6; n++ {
		wantRefused(t, l, condOf("c", asks("p", by(0, number(n)))), f)
		wantRefused(t, l, condOf("c", asksOne("q", vals(number(n)))), f)
	}
	f.Vals[2] = api.Value{Kind: 3}
	wantRefused(t, l, condOf("c", asks("p", by(0, number(2)))), f)
}

// P20.2: with false nothing is bound, however much was bound ahead of it.
func TestFalseBindsNothing(t *testing.T) {
	for n := range 5 {
		var attrs []api.AttrTest
		for i := range n {
			attrs = append(attrs, asks("p", like(0, "x"+strconv.Itoa(i)), like(0, "y"+strconv.Itoa(i))))
		}
		for _, wrong := range []api.AttrTest{asks("z"), asksOne("q", vals(none)), asks("q", by(0, none)), asks("q", like(0, "v"), like(1, "v")), asks("q", like(0, "v"), like(2, "none")), asks("q", like(0, "ahead"))} {
			for at := range n + 1 {
				wantNotMatch(t, three(), condOf("c", slices.Insert(slices.Clone(attrs), at, wrong)...), one(), binds(is("ahead", none)))
			}
		}
	}
}
