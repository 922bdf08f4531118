package test

import (
	"math"
	"slices"
	"testing"

	"intarsia/api"
)

// P20.2: the chapter's example, and others by their texts, with x bound to 1 ahead or
// not.
func TestMatchTexts(t *testing.T) {
	l := classes(classIs("c", "p", "q"))
	f := fact(1, "c", number(1), symbol("a"))
	for text, want := range map[string][2]bool{ // with nothing bound, with x
		"(c)":                              {true, true},
		"-(c)":                             {true, true},
		"(d)":                              {false, false},
		"(c ^p 1)":                         {true, true},
		"(c ^p 2)":                         {false, false},
		"(c ^q a ^p 1)":                    {true, true},
		"(c ^q a ^p 2)":                    {false, false},
		"(c ^z 1)":                         {false, false},
		"(c ^p <x>)":                       {true, true},
		"(c ^q <x>)":                       {true, false},
		"(c ^q <> <x>)":                    {false, true},
		"(c ^p <x> ^q <x>)":                {false, false},
		"(c ^p <x> ^q <> <x>)":             {true, true},
		"(c ^q <> <x> ^p <x>)":             {false, true},
		"(c ^p {<y> <= <x>} ^q <> <y>)":    {false, true},
		"(c ^p {> 0 < 2 <y>})":             {true, true},
		"(c ^p {> 0 < 1 <y>})":             {false, false},
		"(c ^q << b a >>)":                 {true, true},
		"(c ^q << b 1 >>)":                 {false, false},
		"(c ^p << 1 2 >> ^q << a >>)":      {true, true},
		"(c ^q > 0)":                       {false, false},
		"(c ^q <> nil)":                    {true, true},
		"(c ^q nil)":                       {false, false},
		"(c ^p {<x> >= <x> <= <x>})":       {true, true},
		"(c ^p {<x> > <x>})":               {false, false},
		"(c ^p { >= <x> <x> })":            {false, true},
		"(c ^p <y> ^q <z> ^p <y>)":         {true, true},
		"(c ^p <y> ^q <z> ^p <z>)":         {false, false},
		"(c ^p <x> ^p { <x> <y> } ^q <z>)": {true, true},
	} {
		for i, b := range [][]api.Bound{nil, binds(is("x", number(1)))} {
			want := want[i]
			c := read(text)
			all, ok := ownMatch(l, c, f, b)
			if ok != want {
				t.Errorf("%s: the test's own telling is %v, with %v bound; want %v", text, ok, b, want)
			}
			wantLikeOwn(t, l, c, f, b)
			if want && len(all) < len(b) {
				t.Errorf("%s: %v is bound behind %v", text, all, b)
			}
		}
	}
	example := read("(c ^p <x> ^q > <x>)")
	wantMatch(t, l, example, fact(1, "c", number(1), number(2)), nil, binds(is("x", number(1))))
	wantNotMatch(t, l, example, fact(1, "c", number(2), number(1)), nil)
	wantPasses(t, l, example, fact(1, "c", number(1), number(2)), true)
	wantPasses(t, l, example, fact(1, "c", number(2), number(1)), true)
}

// conditions are such as a c with p 1, q a and r 3 matches: without attributes, with
// Ones, with tests, with both, with variables.
func conditions() []api.Cond {
	return []api.Cond{
		condOf("c"),
		condOf("c", asks("p")),
		condOf("c", asks("q", by(0, symbol("a")))),
		condOf("c", asksOne("p", vals(number(1)))),
		condOf("c", asksOne("p", vals(number(1)), by(2, number(2))), asks("r"), asks("q", by(1, none))),
		condOf("c", asks("p", like(0, "v")), asks("r", like(4, "v"))),
		condOf("c", asks("r", like(0, "v"), by(5, number(3)), like(0, "w"))),
	}
}

// P20.2: what class.Check refuses matches nothing: each of its errors alone.
func TestRefusedByClass(t *testing.T) {
	for _, c := range conditions() {
		want, _ := ownMatch(three(), c, one(), nil)
		for _, tag := range []int{1, 2, mostTag - 1, mostTag} {
			f := one()
			f.Tag = tag
			wantMatch(t, three(), c, f, nil, want)
		}
		for _, tag := range []int{0, -1, -7, mostTag + 1, math.MaxInt, math.MinInt} {
			f := one()
			f.Tag = tag
			wantRefused(t, three(), c, f)
		}
		wantRefused(t, nil, c, one())
		wantRefused(t, three()[1:], c, one())
		wantRefused(t, classes(classIs("c ", "p", "q", "r"), classIs("C", "p", "q", "r"), classIs("", "p", "q", "r")), c, one())
		for n := range 6 {
			f := one()
			f.Vals = append(f.Vals, none, none)[:n]
			if n != 3 {
				wantRefused(t, three(), c, f)
			}
		}
		for _, v := range wrongValues() {
			for at := range 3 {
				f := one()
				f.Vals[at] = v
				wantRefused(t, three(), c, f)
			}
			l, f := three(), one()
			l[0].Attrs, f.Vals = append(l[0].Attrs, "s"), append(f.Vals, v)
			wantRefused(t, l, c, f)
			f.Vals[3] = none
			wantMatch(t, l, c, f, nil, want)
		}
	}
}

// P20.2: another class is another one, though it has the same attributes.
func TestOtherClass(t *testing.T) {
	for _, c := range conditions() {
		want, _ := ownMatch(three(), c, one(), nil)
		for _, name := range names("d", "e", "", "f", "C", "c ", "cc", "p") {
			other := c
			other.Class = name
			wantRefused(t, three(), other, one())
			l := append(three(), classIs(name, "p", "q", "r"))
			wantRefused(t, l, other, one())
			wantRefused(t, slices.Insert(l, 0, l[len(l)-1]), other, one())
			f := one()
			f.Class = name
			wantRefused(t, l, c, f)
			if name != "e" {
				wantMatch(t, l, other, f, nil, want)
			}
		}
	}
	wantMatch(t, three(), condOf("e"), fact(1, "e"), nil, nil)
	wantRefused(t, three(), condOf("e"), fact(1, "c", none, none, none))
}

// P20.2: of two classes of one name the first counts.
func TestClassTwice(t *testing.T) {
	l := classes(classIs("a", "q"), classIs("c", "q", "p"), classIs("c", "p", "q"), classIs("c", "p"))
	f := fact(1, "c", number(1), number(2))
	wantMatch(t, l, condOf("c", asks("p", by(0, number(2))), asks("q", by(0, number(1)))), f, nil, nil)
	wantRefused(t, l, condOf("c", asks("p", by(0, number(1)))), f)
	wantRefused(t, l, condOf("c"), fact(1, "c", number(1)))
	wantRefused(t, l, condOf("c", asks("r", by(0, number(1)))), f)
}

// P20.2: an attribute that the class has not, at the first place, in the middle, at
// the last one, whatever is asked of it.
func TestNoAttr(t *testing.T) {
	right := []api.AttrTest{asks("p", by(0, number(1))), asksOne("q", vals(symbol("a"))), asks("r", like(0, "v"))}
	wantMatch(t, three(), condOf("c", right...), one(), nil, binds(is("v", number(3))))
	for _, name := range names("", "s", "P", "p ", "pp", "c", "\xff", "1") {
		for _, wrong := range []api.AttrTest{asks(name), asks(name, by(0, none)), asks(name, by(1, number(1))), asksOne(name, vals(none, number(1), symbol("a"))),
			asksOne(name, vals(none), by(0, none)), asks(name, like(0, "v")), asks(name, like(0, "w"), like(0, "w"))} {
			for at := range 4 {
				c := condOf("c", slices.Insert(slices.Clone(right), at, wrong)...)
				wantNotMatch(t, three(), c, one(), nil)
				wantNotMatch(t, three(), c, one(), binds(is("w", none), is("x", number(1))))
				wantPasses(t, three(), c, one(), len(wrong.Ones) == 0 && (len(wrong.Tests) == 0 || wrong.Tests[0].Var != ""))
			}
			wantNotMatch(t, three(), condOf("c", wrong), one(), nil)
			wantNotMatch(t, three(), condOf("e", wrong), fact(1, "e"), nil)
		}
	}
	wantMatch(t, classes(classIs("c", "")), condOf("c", asks("", by(0, number(1)))), fact(1, "c", number(1)), nil, nil)
}

// P20.2: of Ones the value is to be one: each one is asked by Is.
func TestOnes(t *testing.T) {
	for _, v := range rightValues() {
		f := fact(1, "c", none, v, none)
		var others []api.Value
		for _, w := range append(rightValues(), wrongValues()...) {
			if w != v {
				others = append(others, w)
			}
		}
		wantMatch(t, three(), condOf("c", asksOne("q", vals(v))), f, nil, nil)
		wantMatch(t, three(), condOf("c", asksOne("q", vals(v, v))), f, nil, nil)
		wantMatch(t, three(), condOf("c", asksOne("q", nil)), f, nil, nil)
		wantMatch(t, three(), condOf("c", asksOne("q", vals())), f, nil, nil)
		wantRefused(t, three(), condOf("c", asksOne("q", others)), f)
		for at := range len(others) + 1 {
			wantMatch(t, three(), condOf("c", asksOne("q", slices.Insert(slices.Clone(others), at, v))), f, nil, nil)
		}
		for _, w := range others {
			wantRefused(t, three(), condOf("c", asksOne("q", vals(w))), f)
			wantRefused(t, three(), condOf("c", asksOne("q", vals(v)), asksOne("q", vals(w))), f)
			wantMatch(t, three(), condOf("c", asksOne("q", vals(w, v))), f, nil, nil)
			wantMatch(t, three(), condOf("c", asksOne("q", vals(v, w))), f, nil, nil)
		}
	}
}

// P20.2: what is beside a value in Ones has to hold, too, and Ones beside tests.
func TestOnesAndTests(t *testing.T) {
	right, wrong := vals(symbol("b"), symbol("a")), vals(symbol("b"), number(1))
	wantMatch(t, three(), condOf("c", asksOne("q", right, by(0, symbol("a")))), one(), nil, nil)
	wantRefused(t, three(), condOf("c", asksOne("q", right, by(0, symbol("b")))), one())
	wantRefused(t, three(), condOf("c", asksOne("q", wrong, by(0, symbol("a")))), one())
	wantRefused(t, three(), condOf("c", asksOne("q", wrong, by(0, symbol("b")))), one())
	wantMatch(t, three(), condOf("c", asksOne("q", right, by(1, none), like(0, "v"), by(1, number(1)))), one(), nil, binds(is("v", symbol("a"))))
	wantNotMatch(t, three(), condOf("c", asksOne("q", wrong, like(0, "v"))), one(), nil)
	wantNotMatch(t, three(), condOf("c", asksOne("q", right, like(0, "v"))), one(), binds(is("v", symbol("b"))))
}

// sides are values of each kind, for either side of a test.
func sides() []api.Value {
	return vals(none, number(0), number(1), number(2), number(-1), number(mostTag), number(-mostTag), symbol("a"), symbol("b"), symbol("B"))
}

// wantTest asks what a test tells, at the first place and behind others, within an
// attribute and over several.
func wantTest(t *testing.T, f api.Fact, x api.Test, bound []api.Bound, want bool) {
	t.Helper()
	for _, c := range []api.Cond{
		condOf("c", asks("q", x)),
		condOf("c", asks("q", by(0, f.Vals[1]), x)),
		condOf("c", asks("q", x, by(0, f.Vals[1]))),
		condOf("c", asks("p", by(0, f.Vals[0])), asksOne("q", vals(f.Vals[1]), x), asks("r", by(0, f.Vals[2]))),
	} {
		if want {
			wantMatch(t, three(), c, f, bound, bound)
		} else {
			wantNotMatch(t, three(), c, f, bound)
		}
		if x.Var == "" {
			wantPasses(t, three(), c, f, want)
		}
	}
}

// P20.2: a test of each Pred, with values of each kind on either side: those of Val,
// and those that a variable is bound to.
func TestPreds(t *testing.T) {
	for _, v := range sides() {
		f := fact(1, "c", symbol("c"), v, number(5))
		for _, w := range append(sides(), wrongValues()[:7]...) {
			for _, pred := range []uint8{0, 1, 2, 3, 4, 5, 6, 255} {
				want := ownHolds(pred, v, w)
				wantTest(t, f, by(pred, w), nil, want)
				wantTest(t, f, by(pred, w), binds(is("", v), is("x", v)), want)
				wantTest(t, f, like(pred, "x"), binds(is("x", w)), want)
				wantTest(t, f, like(pred, "x"), binds(is("y", v), is("x", w), is("x", v)), want)
			}
		}
	}
}

// P20.2: what holds of some values, told one by one.
func TestPredsTold(t *testing.T) {
	for _, x := range []struct {
		v, w api.Value
		want [7]bool // by Pred; the last one is none
	}{
		{number(1), number(1), [7]bool{true, false, false, true, false, true}},
		{number(1), number(2), [7]bool{false, true, true, true}},
		{number(2), number(1), [7]bool{false, true, false, false, true, true}},
		{number(-2), number(1), [7]bool{false, true, true, true}},
		{symbol("a"), symbol("a"), [7]bool{true}},
		{symbol("a"), symbol("b"), [7]bool{false, true}},
		{symbol("a"), number(1), [7]bool{false, true}},
		{number(1), symbol("a"), [7]bool{false, true}},
		{none, none, [7]bool{true}},
		{none, number(0), [7]bool{false, true}},
		{number(0), none, [7]bool{false, true}},
		{none, symbol("a"), [7]bool{false, true}},
	} {
		f := fact(1, "c", none, x.v, none)
		for pred, want := range x.want {
			wantTest(t, f, by(uint8(pred), x.w), nil, want)
			wantTest(t, f, like(uint8(pred), "x"), binds(is("x", x.w)), want)
		}
	}
}

// P20.2: of a variable that is not bound no test holds but Is; nor if it is bound
// behind it.
func TestNotBound(t *testing.T) {
	for i, v := range sides() {
		f := fact(1, "c", symbol("c"), v, number(5))
		for pred := range 256 {
			if pred > 7 && pred%10 != i {
				continue
			}
			x := like(uint8(pred), "x")
			if pred == 0 {
				wantMatch(t, three(), condOf("c", asks("q", x)), f, nil, binds(is("x", v)))
				continue
			}
			for _, b := range [][]api.Bound{nil, {is("y", v)}, {is("", v)}, {is("X", v), is("xx", number(1))}} {
				wantTest(t, f, x, b, false)
			}
			x.Val = v
			wantTest(t, f, x, nil, false)
			wantNotMatch(t, three(), condOf("c", asks("q", x, like(0, "x"))), f, nil)
			wantNotMatch(t, three(), condOf("c", asks("q", x), asks("r", like(0, "x"))), f, nil)
			wantNotMatch(t, three(), condOf("c", asks("p", like(0, "y")), asks("q", x)), f, nil)
		}
	}
}
