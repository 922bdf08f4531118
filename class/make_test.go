package class

import (
	"testing"

	"intarsia/api"
)

// P18.2, the chapter's example.
func TestExample(t *testing.T) {
	l := classes(classIs("c", "p", "q"))
	f, err := Make(l, 3, "c", sets(set("q", num(5))))
	if err != api.OK || Text(l, f) != "(c ^q 5)" {
		t.Errorf("Make = %s, %d", Text(l, f), int(err))
	}
	g, err := With(l, f, 4, sets(set("p", sym("a"))))
	if err != api.OK || Text(l, g) != "(c ^p a ^q 5)" || g.Tag != 4 {
		t.Errorf("With = %d: %s, %d", g.Tag, Text(l, g), int(err))
	}
}

// P18.2: a fact is made of a class that is there, the first one of two; that there
// is none is told ahead of all else.
func TestMakeClass(t *testing.T) {
	for _, name := range []string{"", "f", "C", "p"} {
		for _, tag := range []int{1, 0, mostTag + 1} {
			for _, s := range [][]api.Bound{nil, {set("p", none)}, {set("z", none)}, {set("q", api.Value{Kind: 3})}} {
				wantNotMade(t, three(), tag, name, s, api.ErrClass)
				wantNotMade(t, nil, tag, name, s, api.ErrClass)
			}
		}
	}
	wantMade(t, classes(classIs("", "")), 1, "", sets(set("", num(1))), fact(1, "", num(1)))
	twice := classes(classIs("c", "p"), classIs("c", "q", "p"))
	wantMade(t, twice, 1, "c", sets(set("p", num(1))), fact(1, "c", num(1)))
	wantNotMade(t, twice, 1, "c", sets(set("q", num(1))), api.ErrAttr)
}

// P18.2: the made fact has the tag that it is given, if that is one; a tag that may
// not be is told ahead of what is wrong in sets.
func TestMakeTag(t *testing.T) {
	for _, tag := range tagsThatMay {
		wantMade(t, three(), tag, "d", nil, fact(tag, "d", none))
		wantMade(t, three(), tag, "d", sets(set("q", sym("a"))), fact(tag, "d", sym("a")))
		wantMade(t, three(), tag, "e", nil, fact(tag, "e"))
	}
	for _, tag := range tagsThatMayNo {
		wantNotMade(t, three(), tag, "c", nil, api.ErrTag)
		wantNotMade(t, three(), tag, "e", nil, api.ErrTag)
		wantNotMade(t, three(), tag, "c", sets(set("z", none)), api.ErrTag)
		wantNotMade(t, three(), tag, "c", sets(set("p", none), set("p", none)), api.ErrTag)
		wantNotMade(t, three(), tag, "c", sets(set("p", api.Value{Kind: 3})), api.ErrTag)
	}
}

// P18.2: what is set stands at its attribute's place, whatever the sets' order is;
// all else is Nothing.
func TestMakeSets(t *testing.T) {
	wantMade(t, three(), 7, "c", nil, fact(7, "c", none, none, none))
	wantMade(t, three(), 7, "c", sets(), fact(7, "c", none, none, none))
	p, q, r := set("p", num(1)), set("q", sym("b")), set("r", num(3))
	wantMade(t, three(), 7, "c", sets(p), fact(7, "c", num(1), none, none))
	wantMade(t, three(), 7, "c", sets(q), fact(7, "c", none, sym("b"), none))
	wantMade(t, three(), 7, "c", sets(r), fact(7, "c", none, none, num(3)))
	wantMade(t, three(), 7, "c", sets(p, r), fact(7, "c", num(1), none, num(3)))
	wantMade(t, three(), 7, "c", sets(r, q), fact(7, "c", none, sym("b"), num(3)))
	for _, s := range [][]api.Bound{{p, q, r}, {p, r, q}, {q, p, r}, {q, r, p}, {r, p, q}, {r, q, p}} {
		wantMade(t, three(), 7, "c", s, fact(7, "c", num(1), sym("b"), num(3)))
	}
	wantMade(t, three(), 7, "c", sets(set("q", none)), fact(7, "c", none, none, none))
	for _, v := range rightValues() {
		wantMade(t, three(), 7, "c", sets(set("q", v)), fact(7, "c", none, v, none))
		wantMade(t, three(), 7, "c", sets(set("r", v), set("p", v)), fact(7, "c", v, none, v))
	}
}

// P18.2: of an attribute that stands twice in its class the first place is set.
func TestMakeTwice(t *testing.T) {
	l := classes(classIs("c", "q", "p", "p", "q"))
	wantMade(t, l, 7, "c", sets(set("p", num(1))), fact(7, "c", none, num(1), none, none))
	wantMade(t, l, 7, "c", sets(set("p", num(1)), set("q", num(2))), fact(7, "c", num(2), num(1), none, none))
	wantNotMade(t, l, 7, "c", sets(set("p", num(1)), set("p", num(2))), api.ErrThere)
	wantNotMade(t, l, 7, "c", sets(set("q", num(1)), set("p", none), set("q", num(1))), api.ErrThere)
}

// P18.2: what may be wrong in a set.
func TestMakeSetErrors(t *testing.T) {
	wantSetErrors(t, func(s []api.Bound, want api.Errno) {
		t.Helper()
		wantNotMade(t, three(), 7, "c", s, want)
	})
	for _, s := range [][]api.Bound{{set("p", none)}, {set("", none)}, {set("e", none), set("e", none)}, {set("p", api.Value{Kind: 3})}} {
		wantNotMade(t, three(), 7, "e", s, api.ErrAttr)
	}
}

// wantSetErrors asks for the errors of sets of the class c: an attribute that it
// has not, one that was set ahead, a value that may not be; the first set that has
// one, and of one set the first in this order.
func wantSetErrors(t *testing.T, ask func(s []api.Bound, want api.Errno)) {
	t.Helper()
	p, q, r := set("p", num(1)), set("q", num(2)), set("r", none)
	for _, name := range []string{"", "z", "P", "pp", "c", "^p", "p ", "\xff"} {
		z := set(name, none)
		for _, s := range [][]api.Bound{{z}, {p, z}, {z, p}, {p, q, z}, {p, z, q}, {p, q, r, z}, {z, z}, {p, z, z}, {p, z, p}} {
			ask(s, api.ErrAttr)
		}
	}
	for _, s := range [][]api.Bound{{p, p}, {p, q, p}, {p, q, q}, {r, q, r}, {p, q, r, p}, {p, q, r, q}, {p, q, r, r}, {p, p, p}, {r, r}} {
		ask(s, api.ErrThere)
	}
	ask(sets(p, set("p", num(8))), api.ErrThere)
	ask(sets(set("r", num(8)), r), api.ErrThere)
	ask(sets(p, p, set("z", none)), api.ErrThere)
	ask(sets(p, set("z", none), p), api.ErrAttr)
	for _, v := range wrongValues() {
		for _, s := range [][]api.Bound{{set("p", v.Value)}, {p, set("q", v.Value)}, {p, q, set("r", v.Value)}, {set("p", v.Value), q, r}} {
			ask(s, v.err)
		}
		ask(sets(set("z", v.Value)), api.ErrAttr)
		ask(sets(p, set("z", v.Value)), api.ErrAttr)
		ask(sets(p, set("p", v.Value)), api.ErrThere)
		ask(sets(q, p, set("q", v.Value)), api.ErrThere)
		ask(sets(set("p", v.Value), set("z", none)), v.err)
		ask(sets(set("p", v.Value), p), v.err)
		ask(sets(set("p", v.Value), set("p", v.Value)), v.err)
		ask(sets(set("z", none), set("p", v.Value)), api.ErrAttr)
		ask(sets(p, p, set("q", v.Value)), api.ErrThere)
		for _, w := range wrongValues() {
			ask(sets(q, set("r", v.Value), set("p", w.Value)), v.err)
		}
	}
}
