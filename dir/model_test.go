package dir

import (
	"bytes"
	"math/rand"
	"slices"
	"testing"

	"intarsia/api"
)

// P11.5: what is doubled sends each key where it did, and is halved to what it
// was.
func TestDoubledSendsKeys(t *testing.T) {
	for depth := range 10 {
		d := full(depth)
		for d.Depth < 10 {
			e, ok := Double(d)
			if !ok || Check(e) != api.OK {
				t.Fatal(e, ok)
			}
			for _, key := range keys() {
				if At(d, key) != At(e, key) || Place(d, key) != Place(e, key)/2 {
					t.Errorf("depth %d, %q: %d, %d", d.Depth, key, At(d, key), At(e, key))
				}
			}
			h, ok := Halve(e)
			if !ok || !Same(h, d) {
				t.Errorf("depth %d: halved to %v, %v", d.Depth, h, ok)
			}
			d = e
		}
	}
}

// P11.3, P11.4, P11.5: a directory that is doubled, halved and set at random is
// as a list of the slots by their places' digits.
func TestModel(t *testing.T) {
	r := rand.New(rand.NewSource(11))
	some := keys()
	for range 60 {
		d := One(1 + r.Intn(3000))
		for range 60 {
			before := copied(d)
			switch r.Intn(4) {
			case 0:
				d = tryDouble(t, d)
			case 1:
				d = tryHalve(t, d)
			default:
				depth := r.Intn(d.Depth + 1)
				prefix, id := r.Intn(twos(depth)), 1+r.Intn(9)
				want := setOf(d, prefix, depth, id)
				d = Set(d, prefix, depth, id)
				wantDir(t, "Set", d, want)
			}
			if Check(d) != api.OK {
				t.Fatal(before, d)
			}
			b, _ := Put(d)
			if e, err := Get(d.Depth, b); err != api.OK || !Same(d, e) {
				t.Fatal(d, e, err)
			}
			key := some[r.Intn(len(some))]
			if At(d, key) != d.Slots[Place(d, key)] || !slices.Contains(IDs(d), At(d, key)) {
				t.Fatal(d, key)
			}
		}
	}
}

func tryDouble(t *testing.T, d Dir) Dir {
	t.Helper()
	e, ok := Double(d)
	if ok != (d.Depth < 10) || !ok && !equal(d, e) {
		t.Fatal(d, e, ok)
	}
	if h, back := Halve(e); ok && (!back || !equal(h, d)) {
		t.Fatal(d, e, h)
	}
	return e
}

func tryHalve(t *testing.T, d Dir) Dir {
	t.Helper()
	e, ok := Halve(d)
	if !ok {
		if !equal(d, e) {
			t.Fatal(d, e)
		}
		return e
	}
	if again, _ := Double(e); !equal(again, d) {
		t.Fatal(d, e, again)
	}
	return e
}

// Rule 1: any bytes, any depth.
func FuzzGet(f *testing.F) {
	for _, d := range mayBe() {
		f.Add(d.Depth, bodyOf(d.Slots))
	}
	f.Add(-1, []byte{})
	f.Fuzz(func(t *testing.T, depth int, b []byte) {
		d, err := Get(depth, b)
		if err == api.OK {
			if x, wrong := Put(d); wrong != api.OK || d.Depth != depth || !bytes.Equal(x, b) {
				t.Error(d, x)
			}
		} else if err != api.ErrForm || d.Depth != 0 || d.Slots != nil {
			t.Error(d, err)
		}
	})
}

// Rule 1: any directory and any numbers.
func TestAnyArguments(t *testing.T) {
	r := rand.New(rand.NewSource(111))
	drawn := func() int { return r.Int()>>r.Intn(64) - r.Int()>>r.Intn(64) }
	for range 5000 {
		d := Dir{Depth: r.Intn(14) - 1}
		if r.Intn(4) == 0 {
			d.Depth = drawn()
		}
		for range r.Intn(20) {
			d.Slots = append(d.Slots, 1+r.Intn(4))
		}
		if len(d.Slots) > 0 && r.Intn(2) == 0 {
			d.Slots[r.Intn(len(d.Slots))] = drawn()
		}
		kept := copied(d)
		mayBe := Check(d) == api.OK
		Double(d)
		Halve(d)
		Set(d, drawn(), drawn(), drawn())
		IDs(d)
		Get(drawn(), []byte("some bytes"))
		if b, _ := Put(d); mayBe != (b != nil) {
			t.Error(d)
		}
		if (At(d, "a") != 0) != mayBe {
			t.Error(d)
		}
		wantDir(t, "behind all", d, kept)
	}
}
