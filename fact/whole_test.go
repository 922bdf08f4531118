package fact

import (
	"testing"

	"intarsia/api"
	"intarsia/value"
)

// ok tells whether a value may be.
func ok(v api.Value) bool { return value.Check(v) == api.OK }

// P19.3: a fact that is put is got as it was, and its tag is told by its key; and of
// two unlike facts either the key or what is laid is not the same.
func TestWhole(t *testing.T) {
	put := 0
	for i := range 20000 {
		d := drawerOf(i, []int{0, 60}[i%2])
		l := d.classes()
		f, g := d.fact(l), d.fact(l)
		if !wantBack(t, l, f) || !wantBack(t, l, g) {
			continue
		}
		put++
		a, _ := Put(l, f)
		b, _ := Put(l, g)
		k, _ := Key(f.Tag)
		m, _ := Key(g.Tag)
		if (k+a == m+b) != alike(f, g) || (k < m) != (f.Tag < g.Tag) {
			t.Errorf("%s is %x: %x, and %s is %x: %x", short(f), k, a, short(g), m, b)
		}
		if t.Failed() {
			return
		}
	}
	if put < 10000 {
		t.Errorf("%d were put", put)
	}
}

// wantBack asks that a fact is got as it was, with the tag that its key tells; and
// answers whether it is put at all.
func wantBack(t *testing.T, l []api.Class, f api.Fact) bool {
	t.Helper()
	val, err := Put(l, f)
	if err != api.OK {
		return false
	}
	key, err := Key(f.Tag)
	if err != api.OK || len(val) > most || len(key) > api.MaxKey {
		t.Errorf("Key(%d) = %x, %d; Put(%s) = %x", f.Tag, key, int(err), short(f), val)
	}
	tag, err := Tag(key)
	if tag != f.Tag || err != api.OK {
		t.Errorf("Tag(%x) = %d, %d; want %d", key, tag, int(err), f.Tag)
	}
	g, err := Get(l, tag, val)
	if !alike(g, f) || err != api.OK {
		t.Errorf("Get(%s, %d, %x) = %s, %d; want %s", short(l), tag, val, short(g), int(err), short(f))
	}
	return true
}
