package class

import (
	"strconv"
	"testing"

	"intarsia/api"
)

// spoil changes all that a fact's list has room for.
func spoil(f api.Fact) {
	for i := range f.Vals[:cap(f.Vals)] {
		f.Vals[:cap(f.Vals)][i] = sym("spoilt")
	}
}

// Rule 3: what is answered may be changed without changing what was handed in, and
// the other way round, whatever was set.
func TestNewMemory(t *testing.T) {
	for _, s := range [][]api.Bound{nil, {}, {set("p", num(1))}, {set("q", sym("a")), set("p", none)}, {set("r", num(3)), set("q", num(2)), set("p", num(1))}} {
		l := three()
		f := fact(5, "c", roomy(vals(num(4), sym("b"), none), num(9))...)
		s = roomy(s, set("z", num(9)))
		kept(t, func() {
			g, _ := With(l, f, 6, s)
			spoil(g)
			g, _ = With(l, f, f.Tag, s)
			spoil(g)
			g, _ = Make(l, 6, "c", s)
			spoil(g)
		}, l, f, s)
		g, _ := With(l, f, 6, s)
		h, _ := Make(l, 6, "c", s)
		again, _ := Make(l, 6, "c", s)
		kept(t, func() {
			spoil(f)
			spoil(again)
			l[0] = classIs("spoilt")
			for i := range s[:cap(s)] {
				s[:cap(s)][i] = set("spoilt", sym("spoilt"))
			}
		}, g, h)
	}
}

// Rule 3: what is told of a class is of one's own, too: its attributes' names.
func TestClassesKept(t *testing.T) {
	l := three()
	l[0].Attrs = roomy(l[0].Attrs, "z")
	f := fact(5, "c", num(4), sym("b"), none)
	kept(t, func() {
		g, _ := With(l, f, 6, sets(set("r", num(1))))
		spoil(g)
		Text(l, g)
		Check(l, g)
		Get(l, g, "p")
		Same(f, g)
	}, l, f)
}

// Rule 1: great lists end soon.
func TestGreat(t *testing.T) {
	const n = 3000
	var names []string
	var s []api.Bound
	for i := range n {
		names = append(names, "a"+strconv.Itoa(i))
		s = append(sets(set(names[i], num(i))), s...)
	}
	l := classes(classIs("b", "p"), classIs("c", names...))
	f, err := Make(l, 1, "c", s)
	if err != api.OK || len(f.Vals) != n || f.Vals[n-1] != num(n-1) {
		t.Fatalf("Make of many = %d", int(err))
	}
	if _, err := With(l, f, 2, append(s, s[n-1])); err != api.ErrThere {
		t.Errorf("With of many, and one of them again = %d", int(err))
	}
	if v, ok := Get(l, f, "a2999"); v != num(2999) || !ok {
		t.Errorf("Get of many = %+v, %v", v, ok)
	}
	if text := Text(l, f); len(text) < 10*n {
		t.Errorf("Text of many has %d bytes", len(text))
	}
	many := make([]api.Class, 1000000)
	many[0].Name = "a"
	many = append(many, l...)
	if err := Check(many, f); err != api.OK {
		t.Errorf("Check with many classes = %d", int(err))
	}
	wide := fact(1, "w", make([]api.Value, 1000000)...)
	wide.Vals[999999] = num(7)
	l = classes(classIs("w", make([]string, 1000000)...))
	if text := Text(l, wide); text != "(w ^ 7)" {
		t.Errorf("Text of a wide fact = %.100q", text)
	}
	if g, err := With(l, wide, 3, sets(set("", num(1)))); err != api.OK || g.Vals[0] != num(1) || Same(g, wide) || !Same(wide, wide) {
		t.Errorf("With of a wide fact = %d", int(err))
	}
}
