package fact

import (
	"strings"
	"testing"

	"intarsia/api"
)

// spoil changes all that a list has room for.
func spoil[T any](l []T, v T) {
	for i := range l[:cap(l)] {
		l[:cap(l)][i] = v
	}
}

// Rule 3: what is answered may be changed without changing what was handed in, or
// another answer, and the other way round.
func TestNewMemory(t *testing.T) {
	for _, c := range []struct {
		name string
		vals []api.Value
	}{
		{"c", vals(number(4), symbol("b"), none)},
		{"c", vals(none, none, none)},
		{"d", vals(symbol(widest))},
		{"e", nil},
	} {
		l := roomy(three(), classIs("spare", "p"))
		l[0].Attrs = roomy(l[0].Attrs, "z")
		f := fact(5, c.name, roomy(c.vals, number(9))...)
		val, _ := Put(l, f)
		g, _ := Get(l, 5, val)
		again, _ := Get(l, 5, val)
		kept(t, func() { spoil(g.Vals, symbol("spoilt")) }, l, f, val, again)
		kept(t, func() {
			spoil(f.Vals, symbol("spoilt"))
			spoil(l[0].Attrs, "spoilt")
			spoil(l, classIs("spoilt"))
		}, val, again)
	}
}

// Rule 1: great lists and texts end soon, and answer as the small ones do.
func TestGreat(t *testing.T) {
	const n = 1 << 20
	none160 := strings.Repeat("\x00", most)
	l := classes(wide("w", n), classIs("c", "p"))
	f := fact(7, "w", make([]api.Value, n)...)
	if s, err := Put(l, f); s != "" || err != api.ErrLong {
		t.Errorf("Put of a wide fact = %.100x, %d", s, int(err))
	}
	f.Vals[n-1] = api.Value{Kind: 3}
	if s, err := Put(l, f); s != "" || err != api.ErrKind {
		t.Errorf("Put of a wide fact that may not be = %.100x, %d", s, int(err))
	}
	for range 10000 {
		if g, err := Get(l, 7, none160); !alike(g, api.Fact{}) || err != api.ErrForm {
			t.Fatalf("Get of a wide class = %s, %d", short(g), int(err))
		}
	}
	great := strings.Repeat("\x00", 1<<26)
	for range 1000 {
		if g, err := Get(l, 7, great); !alike(g, api.Fact{}) || err != api.ErrForm {
			t.Fatalf("Get of a great text = %s, %d", short(g), int(err))
		}
		if tag, err := Tag(great); tag != 0 || err != api.ErrForm {
			t.Fatalf("Tag of a great key = %d, %d", tag, int(err))
		}
	}
	far := append(make([]api.Class, n), l...)
	if s, err := Put(far, fact(7, "c", none)); s != "" || err != api.ErrLong {
		t.Errorf("Put of a far class = %.100x, %d", s, int(err))
	}
	if g, err := Get(far, 7, "\x00"); !alike(g, fact(7, "")) || err != api.OK {
		t.Errorf("Get of many classes = %s, %d", short(g), int(err))
	}
	if g, err := Get(far, 7, "\x01"); !alike(g, api.Fact{}) || err != api.ErrForm {
		t.Errorf("Get of the second one of many classes = %s, %d", short(g), int(err))
	}
}
