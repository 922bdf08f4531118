package test

import (
	"slices"
	"testing"

	"intarsia/api"
)

// P20.5: what matches passes, and what was bound ahead stays in its place; asked of
// drawn classes, facts, conditions and what is bound.
func TestMatchesPass(t *testing.T) {
	matches, more := 0, 0
	for i := range 60000 {
		d := drawerOf(i, []int{0, 8, 40}[i%3])
		l := d.classes()
		f := d.fact(l)
		c, b := d.cond(l, f), d.bound()
		all, ok := Match(l, c, f, b)
		if !ok {
			continue
		}
		matches++
		if !Passes(l, c, f) {
			t.Fatalf("%s, of %s, matches %s with %s bound, and does not pass", short(f), short(l), short(c), short(b))
		}
		if len(all) < len(b) || !Same(all[:len(b)], b) {
			t.Fatalf("%s matches %s with %s bound: %s is bound behind it", short(f), short(c), short(b), short(all))
		}
		if len(all) > len(b) {
			more++
		}
		wantBound(t, c, f, b, all)
		again, ok := Match(l, c, f, all)
		if !ok || !Same(again, all) {
			t.Fatalf("%s matches %s with %s bound: once more %s, %v", short(f), short(c), short(all), short(again), ok)
		}
	}
	if matches < 20000 || more < 5000 {
		t.Errorf("%d match, %d of them bind more", matches, more)
	}
}

// wantBound asks that all that is bound behind a match is what was bound ahead, and
// the condition's other variables in their order, each once.
func wantBound(t *testing.T, c api.Cond, f api.Fact, b, all []api.Bound) {
	t.Helper()
	var fresh []string
	for _, name := range Vars(c) {
		if _, ok := Lookup(b, name); !ok {
			fresh = append(fresh, name)
		}
	}
	var is []string
	for _, x := range all[len(b):] {
		is = append(is, x.Name)
		if !slices.Contains(f.Vals, x.Val) {
			t.Errorf("%s matches %s: %q is %+v, which the fact has not", short(f), short(c), x.Name, x.Val)
		}
	}
	if !slices.Equal(is, fresh) {
		t.Errorf("%s matches %s with %s bound: %q are bound; want %q", short(f), short(c), short(b), is, fresh)
	}
}

// P20.5: a condition without variables matches just what passes, whatever is bound,
// and binds nothing. (Of its attributes each is there, or asked something.)
func TestConstsMatch(t *testing.T) {
	met := [2]int{}
	for i := range 60000 {
		d := drawerOf(i, []int{0, 8, 40}[i%3])
		l := d.classes()
		f := d.fact(l)
		c, b := Consts(d.cond(l, f)), d.bound()
		if d.Intn(3) == 0 {
			c.Attrs = append(c.Attrs, ofClass(l, f)...)
		}
		for _, c := range []api.Cond{c, negated(c)} {
			all, ok := Match(l, c, f, b)
			if ok != Passes(l, c, f) {
				t.Fatalf("%s, of %s, with %s bound: Match of %s is %v, and Passes is not", short(f), short(l), short(b), short(c), ok)
			}
			if ok && !Same(all, b) || !ok && all != nil {
				t.Fatalf("%s, with %s bound: Match of %s binds %s", short(f), short(b), short(c), short(all))
			}
			if ok {
				met[1]++
			} else {
				met[0]++
			}
		}
	}
	if met[0] < 10000 || met[1] < 10000 {
		t.Errorf("%v match or not", met)
	}
}

// ofClass are all attributes of a fact's class, of which nothing is asked.
func ofClass(l []api.Class, f api.Fact) []api.AttrTest {
	var attrs []api.AttrTest
	at := slices.IndexFunc(l, func(c api.Class) bool { return c.Name == f.Class })
	for _, name := range l[at].Attrs {
		attrs = append(attrs, asks(name))
	}
	return attrs
}
