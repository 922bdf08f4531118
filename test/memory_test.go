package test

import (
	"strconv"
	"testing"

	"intarsia/api"
)

// spoil changes all that a list has room for.
func spoil[T any](l []T, v T) {
	for i := range l[:cap(l)] {
		l[:cap(l)][i] = v
	}
}

// spoilCond changes all that a condition's lists have room for.
func spoilCond(c api.Cond) {
	for _, a := range c.Attrs {
		spoil(a.Ones, symbol("spoilt"))
		spoil(a.Tests, by(9, symbol("spoilt")))
	}
	spoil(c.Attrs, asks("spoilt"))
}

// bounds are nothing, an empty list, and some that are bound ahead, each with room
// behind it and without.
func bounds() [][]api.Bound {
	x, y := is("ahead", number(1)), is("more", symbol("a"))
	l := [][]api.Bound{nil, binds(), binds(x), binds(x, y)}
	for _, b := range l[1:] {
		l = append(l, roomy(b, is("spare", none)))
	}
	return append(l, make([]api.Bound, 0, 9), append(make([]api.Bound, 0, 9), x))
}

// Rule 3: what Match answers may be changed without changing what was handed in, or
// another answer, and the other way round; also where what is bound has room behind
// it, and whether more is bound or not.
func TestMatchMemory(t *testing.T) {
	for _, c := range conditions() {
		for i := range bounds() {
			b := bounds()[i]
			c, f, l := roomyCond(c), one(), roomy(three(), classIs("spare"))
			l[0].Attrs = roomy(l[0].Attrs, "z")
			f.Vals = roomy(f.Vals, number(9))
			all, ok := Match(l, c, f, b)
			again, _ := Match(l, c, f, b)
			if !ok {
				t.Fatalf("%s does not match", short(c))
			}
			kept(t, func() { spoil(all, is("spoilt", symbol("spoilt"))) }, l, c, f, b, again)
			all, _ = Match(l, c, f, b)
			kept(t, func() {
				spoil(b, is("spoilt", symbol("spoilt")))
				spoil(f.Vals, symbol("spoilt"))
				spoilCond(c)
				spoil(l[0].Attrs, "spoilt")
				spoil(l, classIs("spoilt"))
			}, all, again)
		}
	}
}

// Rule 3: the spare room of what Match answers is empty: nothing of what was handed in
// stands there.
func TestMatchSpare(t *testing.T) {
	for _, c := range conditions() {
		for _, b := range bounds() {
			all, _ := Match(three(), roomyCond(c), one(), b)
			for _, x := range all[len(all):cap(all)] {
				if x != (api.Bound{}) {
					t.Errorf("Match(%s, %s): behind %s stands %s", short(c), short(b), short(all), short(x))
				}
			}
		}
	}
}

// Rule 3: so it is of Consts, each of whose lists is of its own, and of Vars.
func TestConstsMemory(t *testing.T) {
	shared := vals(number(1), symbol("a"))
	more := tests(by(0, number(1)), like(0, "x"), by(1, none))
	for _, c := range append(conditions(), condOf("c", asksOne("p", shared, more...), asksOne("q", shared, more...), asksOne("p", shared), asks("r", more...))) {
		c = roomyCond(c)
		k, again, v := Consts(c), Consts(c), Vars(c)
		kept(t, func() { spoilCond(k) }, c, again, v)
		kept(t, func() { spoil(v, "spoilt") }, c, again)
		v = Vars(c)
		kept(t, func() { spoilCond(c) }, again, v)
	}
	c := condOf("c", asksOne("p", shared, more...), asksOne("q", shared, more...))
	k := Consts(c)
	a, b := k.Attrs[0], k.Attrs[1]
	kept(t, func() {
		spoil(a.Ones, none)
		spoil(a.Tests, by(9, none))
		_ = append(a.Ones, none)
		_ = append(a.Tests, by(9, none))
	}, b, c)
}

// wide asks for each attribute of a class of as many as that: to be its place, and of
// a variable of its own.
func wide(n int) (api.Class, api.Fact, api.Cond) {
	k, f, c := classIs("w"), fact(1, "w"), condOf("w")
	for i := range n {
		name := "a" + strconv.Itoa(i)
		k.Attrs = append(k.Attrs, name)
		f.Vals = append(f.Vals, number(i))
		c.Attrs = append(c.Attrs, asks(name, by(0, number(i)), like(0, name)))
	}
	return k, f, c
}

// Rule 1: great lists end soon, and answer as the small ones do.
func TestGreat(t *testing.T) {
	k, f, c := wide(3000)
	all, ok := Match(classes(k), c, f, nil)
	if !ok || len(all) != 3000 || all[2999] != is("a2999", number(2999)) {
		t.Errorf("Match of many attributes: %d are bound, %v", len(all), ok)
	}
	const n = 1 << 18
	_, _, c = wide(n)
	if got := Vars(c); len(got) != n || got[n-1] != "a"+strconv.Itoa(n-1) {
		t.Errorf("Vars of many attributes are %d", len(got))
	}
	if got := Tests(c); got != 2*n+1 {
		t.Errorf("Tests of many attributes = %d", got)
	}
	if got := Consts(c); len(got.Attrs) != n || len(got.Attrs[n-1].Tests) != 1 {
		t.Errorf("Consts of many attributes has %d", len(got.Attrs))
	}
	same := condOf("c", asks("p"))
	same.Attrs[0].Tests = make([]api.Test, n)
	same.Attrs[0].Ones = make([]api.Value, n)
	for i := range n {
		same.Attrs[0].Tests[i] = like(uint8(i%2*3), "x")
	}
	same.Attrs[0].Ones[n-1] = number(1)
	if all, ok := Match(three(), same, one(), nil); !ok || !Same(all, binds(is("x", number(1)))) {
		t.Errorf("Match of many tests = %s, %v", short(all), ok)
	}
	if got := Consts(same); len(got.Attrs) != 1 || len(got.Attrs[0].Tests) != 0 || len(got.Attrs[0].Ones) != n {
		t.Errorf("Consts of many tests has %d attributes", len(got.Attrs))
	}
	b := make([]api.Bound, n)
	b[n-1] = is("x", number(1))
	if all, ok := Match(three(), condOf("c", asks("p", like(0, "x"), like(0, "y"))), one(), b); !ok || len(all) != n+1 || all[n] != is("y", number(1)) {
		t.Errorf("Match with many bound: %d are, %v", len(all), ok)
	}
	if v, ok := Lookup(b, "x"); v != number(1) || !ok || !Same(b, append(binds(), b...)) {
		t.Errorf("Lookup of many = %+v, %v", v, ok)
	}
}
