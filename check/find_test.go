package check

import (
	"slices"
	"testing"

	"intarsia/api"
)

// wantFind asks for a class by its name: that of a place, or none below 0.
func wantFind(t *testing.T, l []api.Class, name string, at int) {
	t.Helper()
	kept(t, func() {
		c, ok := Find(l, name)
		if ok != (at >= 0) {
			t.Errorf("Find(%s, %q) tells %v", short(l), name, ok)
		}
		want := api.Class{}
		if at >= 0 {
			want = l[at]
		}
		if c.Name != want.Name || !slices.Equal(c.Attrs, want.Attrs) {
			t.Errorf("Find(%s, %q) = %s; want %s", short(l), name, short(c), short(want))
		}
	}, l)
}

// wantAttr asks for an attribute's place, or none below 0.
func wantAttr(t *testing.T, c api.Class, name string, at int) {
	t.Helper()
	kept(t, func() {
		if i, ok := Attr(c, name); i != max(at, 0) || ok != (at >= 0) {
			t.Errorf("Attr(%s, %q) = %d, %v; want %d", short(c), name, i, ok, at)
		}
	}, c)
}

// P17.1: no classes, no such class, and the first one of a name.
func TestFind(t *testing.T) {
	for _, l := range [][]api.Class{nil, {}, make([]api.Class, 0, 3)} {
		for _, name := range []string{"", "a"} {
			wantFind(t, l, name, -1)
		}
	}
	l := []api.Class{classOf("a", "p"), classOf("b", "q", "r"), classOf("c"), classOf("b", "s"), classOf("a", "t", "u")}
	wantFind(t, l, "a", 0)
	wantFind(t, l, "b", 1)
	wantFind(t, l, "c", 2)
	for _, name := range []string{"", "d", "p", "A", "aa", "a ", "b\x00", "\xff"} {
		wantFind(t, l, name, -1)
	}
}

// P17.1: the empty name, and other names that no text has.
func TestFindOddNames(t *testing.T) {
	l := []api.Class{classOf("\xff", "p"), classOf("a b", "q"), classOf("", "r", "", "r"), classOf("", "s"), classOf("nil")}
	wantFind(t, l, "\xff", 0)
	wantFind(t, l, "a b", 1)
	wantFind(t, l, "", 2)
	wantFind(t, l, "nil", 4)
	wantFind(t, l, "\xfe", -1)
}

// P17.1: no attributes, no such attribute, and the first place of a name.
func TestAttr(t *testing.T) {
	for _, c := range []api.Class{{}, classOf("a"), {Name: "a", Attrs: []string{}}, {Name: "a", Attrs: make([]string, 0, 4)}} {
		for _, name := range []string{"", "a", "p"} {
			wantAttr(t, c, name, -1)
		}
	}
	c := classOf("a", "p", "q", "p", "r", "q", "s")
	for name, at := range map[string]int{"p": 0, "q": 1, "r": 3, "s": 5, "a": -1, "": -1, "P": -1, "pq": -1, "p ": -1} {
		wantAttr(t, c, name, at)
	}
	c = classOf("", "a b", "", "\xff", "")
	for name, at := range map[string]int{"a b": 0, "": 1, "\xff": 2, "\xfe": -1, "a": -1} {
		wantAttr(t, c, name, at)
	}
}

// P17.1 and rule 3: the class that is told has a list of its own, with its spare
// room.
func TestFindIsNew(t *testing.T) {
	l := []api.Class{{Name: "a", Attrs: append(make([]string, 0, 8), "p", "q")}, classOf("b", "r")}
	kept(t, func() {
		c, _ := Find(l, "a")
		d, _ := Find(l, "a")
		c.Attrs[0] = "changed"
		for range 10 {
			c.Attrs = append(c.Attrs, "more")
		}
		if !slices.Equal(d.Attrs, []string{"p", "q"}) {
			t.Errorf("two answers share a list: %q", d.Attrs)
		}
		if d = l[0]; !slices.Equal(d.Attrs, []string{"p", "q"}) {
			t.Errorf("the answer shares the argument's list: %q", d.Attrs)
		}
		c, _ = Find(l, "a")
		for i := range c.Attrs[:cap(c.Attrs)] {
			c.Attrs[:cap(c.Attrs)][i] = "spare"
		}
	}, l)
}
