package class

import (
	"testing"

	"intarsia/api"
)

// P18.2: each of Check's errors of the fact is told ahead of the tag's and of the
// sets'; the fact's own tag is asked, too. (wantChecked asks for each of the other
// errors beside it.)
func TestWithChecks(t *testing.T) {
	for _, tag := range tagsThatMayNo {
		wantChecked(t, three(), fact(tag, "c", none, none, none), api.ErrTag)
		wantNotWith(t, three(), fact(tag, "c", none, none, none), 1, sets(set("p", num(1))), api.ErrTag)
	}
	for _, tag := range []int{1, mostTag, 0, mostTag + 1} {
		for _, s := range [][]api.Bound{nil, {set("z", none)}, {set("p", none), set("p", none)}, {set("p", num(1<<50))}} {
			wantNotWith(t, three(), fact(1, "f", none), tag, s, api.ErrClass)
			wantNotWith(t, nil, fact(1, ""), tag, s, api.ErrClass)
			wantNotWith(t, three(), fact(1, "c", none, none), tag, s, api.ErrForm)
			wantNotWith(t, three(), fact(1, "c", none, none, none, none), tag, s, api.ErrForm)
			for _, v := range wrongValues() {
				wantNotWith(t, three(), fact(1, "c", none, none, v.Value), tag, s, v.err)
			}
		}
	}
	for _, v := range wrongValues() { // also where the set would be in its stead
		wantNotWith(t, three(), fact(1, "d", v.Value), 1, sets(set("q", num(1))), v.err)
	}
}

// P18.2: the fact has the tag that it is given, if that is one; a tag that may not
// be is told ahead of what is wrong in sets.
func TestWithTag(t *testing.T) {
	for _, own := range []int{1, 7, mostTag} {
		f := fact(own, "c", num(1), none, sym("a"))
		for _, tag := range append(tagsThatMay, own) {
			wantWith(t, three(), f, tag, nil, fact(tag, "c", num(1), none, sym("a")))
			wantWith(t, three(), f, tag, sets(set("q", num(2))), fact(tag, "c", num(1), num(2), sym("a")))
			wantWith(t, three(), fact(own, "e"), tag, nil, fact(tag, "e"))
		}
		for _, tag := range tagsThatMayNo {
			wantNotWith(t, three(), f, tag, nil, api.ErrTag)
			wantNotWith(t, three(), f, tag, sets(set("p", none)), api.ErrTag)
			wantNotWith(t, three(), f, tag, sets(set("z", none)), api.ErrTag)
			wantNotWith(t, three(), f, tag, sets(set("p", none), set("p", none)), api.ErrTag)
			wantNotWith(t, three(), f, tag, sets(set("p", num(1<<50))), api.ErrTag)
			wantNotWith(t, three(), fact(own, "e"), tag, nil, api.ErrTag)
		}
	}
}

// P18.2: what is set stands at its attribute's place, whatever the sets' order is;
// all else is as it was.
func TestWithSets(t *testing.T) {
	f := fact(5, "c", num(1), sym("b"), none)
	with := func(want api.Fact, l ...api.Bound) {
		t.Helper()
		wantWith(t, three(), f, 6, l, want)
	}
	with(fact(6, "c", num(1), sym("b"), none))
	with(fact(6, "c", none, sym("b"), none), set("p", none))
	with(fact(6, "c", num(1), none, none), set("q", none))
	with(fact(6, "c", num(1), sym("b"), none), set("r", none))
	with(fact(6, "c", none, none, none), set("q", none), set("p", none))
	with(fact(6, "c", num(1), sym("b"), none), set("p", num(1)))
	with(fact(6, "c", num(1), sym("b"), none), set("q", sym("b")), set("r", none), set("p", num(1)))
	with(fact(6, "c", num(2), sym("b"), none), set("p", num(2)))
	with(fact(6, "c", num(1), num(2), none), set("q", num(2)))
	with(fact(6, "c", num(1), sym("b"), sym("c")), set("r", sym("c")))
	p, q, r := set("p", sym("x")), set("q", num(-2)), set("r", num(3))
	with(fact(6, "c", sym("x"), sym("b"), num(3)), r, p)
	for _, s := range [][]api.Bound{{p, q, r}, {p, r, q}, {q, p, r}, {q, r, p}, {r, p, q}, {r, q, p}} {
		with(fact(6, "c", sym("x"), num(-2), num(3)), s...)
	}
	for _, v := range rightValues() {
		for _, w := range rightValues() {
			wantWith(t, three(), fact(5, "d", v), 6, sets(set("q", w)), fact(6, "d", w))
			wantWith(t, three(), fact(5, "c", v, w, v), 6, sets(set("q", v)), fact(6, "c", v, v, v))
			wantWith(t, three(), fact(5, "c", v, w, v), 6, nil, fact(6, "c", v, w, v))
		}
	}
}

// P18.2: of an attribute that stands twice in its class the first place is set, and
// of two classes of one name the first one counts.
func TestWithTwice(t *testing.T) {
	l := classes(classIs("c", "q", "p", "p", "q"), classIs("c", "r"))
	f := fact(5, "c", num(1), num(2), num(3), num(4))
	wantWith(t, l, f, 6, sets(set("p", sym("a"))), fact(6, "c", num(1), sym("a"), num(3), num(4)))
	wantWith(t, l, f, 6, sets(set("p", none), set("q", none)), fact(6, "c", none, none, num(3), num(4)))
	wantNotWith(t, l, f, 6, sets(set("q", num(1)), set("q", num(4))), api.ErrThere)
	wantNotWith(t, l, f, 6, sets(set("r", num(1))), api.ErrAttr)
	wantNotWith(t, l, fact(5, "c", num(1)), 6, sets(set("r", num(1))), api.ErrForm)
}

// P18.2: what may be wrong in a set, as for Make.
func TestWithSetErrors(t *testing.T) {
	for _, f := range []api.Fact{fact(1, "c", none, none, none), fact(5, "c", num(1), num(2), num(3)), fact(mostTag, "c", none, sym("a"), none)} {
		wantSetErrors(t, func(s []api.Bound, want api.Errno) {
			t.Helper()
			wantNotWith(t, three(), f, f.Tag, s, want)
			wantNotWith(t, three(), f, 6, s, want)
		})
	}
	for _, s := range [][]api.Bound{{set("p", none)}, {set("", none)}, {set("q", num(1<<50))}} {
		wantNotWith(t, three(), fact(5, "e"), 6, s, api.ErrAttr)
	}
}
