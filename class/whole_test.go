package class

import (
	"math/rand"
	"slices"
	"testing"

	"intarsia/api"
)

// P18.4: what was set is got, all else is as it was, and what is made Check lets be;
// asked of drawn classes, facts and sets that may be.
func TestWhole(t *testing.T) {
	with, made, told := 0, 0, 0
	for i := range 40000 {
		d := drawer{rand.New(rand.NewSource(int64(i))), []int{0, 30}[i%2]}
		l := d.classes()
		f, tag := d.fact(l), d.tag()
		c, ok := firstClass(l, f.Class)
		if !ok {
			continue
		}
		s := d.sets(c)
		if g, err := With(l, f, tag, s); err == api.OK {
			wantChanged(t, l, f, tag, s, g)
			wantPut(t, l, f, tag, s, g)
			with++
			told += len(s)
		}
		if g, err := Make(l, tag, c.Name, s); err == api.OK {
			wantChanged(t, l, fact(tag, c.Name, make([]api.Value, len(c.Attrs))...), tag, s, g)
			made++
		}
		if t.Failed() {
			return
		}
	}
	if with < 10000 || made < 10000 || told < 10000 {
		t.Errorf("%d were changed, by %d sets, and %d made", with, told, made)
	}
}

// wantChanged asks of a fact that was made of another one by some sets: it may be,
// what was set is got, and all else is as it was.
func wantChanged(t *testing.T, l []api.Class, f api.Fact, tag int, s []api.Bound, g api.Fact) {
	t.Helper()
	if err := Check(l, g); err != api.OK || g.Tag != tag || g.Class != f.Class || len(g.Vals) != len(f.Vals) {
		t.Fatalf("With(%s, %s, %d, %s) = %s, and Check tells %d", short(l), short(f), tag, short(s), short(g), int(err))
	}
	c, _ := firstClass(l, f.Class)
	for i, name := range c.Attrs {
		at := slices.IndexFunc(s, func(b api.Bound) bool { return b.Name == name })
		first := slices.Index(c.Attrs, name) == i
		want := f.Vals[i]
		if at >= 0 && first {
			want = s[at].Val
		}
		if g.Vals[i] != want {
			t.Errorf("With(%s, %s, %d, %s) has %+v at %d; want %+v", short(l), short(f), tag, short(s), g.Vals[i], i, want)
		}
		if v, ok := Get(l, g, name); first && (v != want || !ok) {
			t.Errorf("With(%s, %s, %d, %s): %q is %+v, %v; want %+v", short(l), short(f), tag, short(s), name, v, ok, want)
		}
	}
}

// wantPut asks that what was changed may be put back, that sets count whatever their
// order is, and that one by one they do the same.
func wantPut(t *testing.T, l []api.Class, f api.Fact, tag int, s []api.Bound, g api.Fact) {
	t.Helper()
	var back, other []api.Bound
	one := f
	for _, b := range s {
		v, _ := Get(l, f, b.Name)
		back = append(back, set(b.Name, v))
		other = append(sets(b), other...)
		one, _ = With(l, one, tag, sets(b))
	}
	if h, err := With(l, g, f.Tag, back); !Same(h, f) || err != api.OK {
		t.Errorf("put back by %s: %s, %d; it was %s", short(back), short(h), int(err), short(f))
	}
	if h, err := With(l, f, tag, other); !Same(h, g) || err != api.OK {
		t.Errorf("by %s: %s, %d; want %s", short(other), short(h), int(err), short(g))
	}
	if len(s) > 0 && !Same(one, g) {
		t.Errorf("one by one of %s: %s; want %s", short(s), short(one), short(g))
	}
}
