package dir

import (
	"bytes"
	"slices"
	"testing"

	"intarsia/api"
	"intarsia/page"
)

// P11.4: IDs, of directories of any kind.
func TestIDs(t *testing.T) {
	for _, c := range []struct {
		d    Dir
		want []int
	}{
		{of(0, 7), []int{7}},
		{of(2, 5, 5, 5, 5), []int{5}},
		{of(2, 4, 3, 2, 1), []int{4, 3, 2, 1}},
		{of(2, 1, 2, 3, 4), []int{1, 2, 3, 4}},
		{of(2, 9, 4, 9, 4), []int{9, 4}},
		{of(2, 4, 9, 9, 4), []int{4, 9}},
		{of(2, 7, 7, 9, 9), []int{7, 9}},
		{of(3, 3, 1, 3, 2, 1, 3000, 2, 3), []int{3, 1, 2, 3000}},
		{Dir{Depth: 10, Slots: all(1024, 8)}, []int{8}},
		{full(10), full(10).Slots},
		{Dir{Depth: 10, Slots: with(all(1024, 8), 1023, 1)}, []int{8, 1}},
		{Dir{Depth: 10, Slots: with(all(1024, 8), 0, 1)}, []int{1, 8}},
		// Those that Check refuses.
		{Dir{}, nil},
		{Dir{Depth: 3, Slots: []int{}}, nil},
		{of(0, 0), []int{0}},
		{of(-1, -1, 3001, -1, 0, 3001), []int{-1, 3001, 0}},
		{of(11, 2, 1, 2), []int{2, 1}},
		{of(5, 1, 1, 2), []int{1, 2}},
	} {
		kept := copied(c.d)
		if got := IDs(c.d); !slices.Equal(got, c.want) {
			t.Errorf("IDs of %v: %v, want %v", c.d, got, c.want)
		}
		wantDir(t, "behind IDs", c.d, kept)
	}
}

// Rule 3; LANGUAGE 5: the order hangs on the slots alone, each time.
func TestIDsAgain(t *testing.T) {
	d := full(10)
	slices.Reverse(d.Slots)
	kept := copied(d)
	first := IDs(d)
	for range 20 {
		if !slices.Equal(IDs(d), kept.Slots) {
			t.Fatal("another order")
		}
	}
	first[0] = -1
	wantDir(t, "behind a change of what was answered", d, kept)
}

// bodyOf lays slots as pairs of bytes, the higher one first.
func bodyOf(slots []int) []byte {
	var b []byte
	for _, id := range slots {
		b = append(b, byte(id/256), byte(id%256))
	}
	return b
}

func wantNoDir(t *testing.T, depth int, b []byte) {
	t.Helper()
	kept := slices.Clone(b)
	d, err := Get(depth, b)
	if err != api.ErrForm || d.Depth != 0 || d.Slots != nil {
		t.Errorf("Get(%d, %x): %v, %v", depth, b, d, err)
	}
	if !bytes.Equal(b, kept) {
		t.Errorf("%x was changed", kept)
	}
}

func mayBe() []Dir {
	l := []Dir{One(1), One(7), One(255), One(256), One(3000), of(1, 258, 1), of(2, 7, 7, 8, 9)}
	for depth := range 11 {
		l = append(l, full(depth), Dir{Depth: depth, Slots: all(twos(depth), 3000)})
	}
	return l
}

// P11.4: what Put lays is got, at its own depth alone.
func TestPutGet(t *testing.T) {
	for _, d := range mayBe() {
		kept := copied(d)
		b, err := Put(d)
		words, _ := page.Words(d.Slots)
		if err != api.OK || !bytes.Equal(b, bodyOf(d.Slots)) || !bytes.Equal(b, words) {
			t.Errorf("Put of %v: %x, %v", d, b, err)
		}
		wantDir(t, "behind Put", d, kept)
		e, err := Get(d.Depth, b)
		wantDir(t, "Get", e, d)
		if err != api.OK || !Same(d, e) {
			t.Errorf("Get of %v: %v", d, err)
		}
		for _, depth := range []int{-1, 0, 1, 2, 9, 10, 11, 64, -64, d.Depth - 1, d.Depth + 1} {
			if depth != d.Depth {
				wantNoDir(t, depth, b)
			}
		}
	}
	if b, _ := Put(of(1, 258, 3000)); !bytes.Equal(b, []byte{1, 2, 0x0b, 0xb8}) {
		t.Errorf("%x", b)
	}
}

// P11.4: a byte more, a byte less, and so on.
func TestGetWrongLength(t *testing.T) {
	for _, d := range mayBe() {
		b := bodyOf(d.Slots)
		for _, more := range [][]byte{{0}, {5}, {0, 1}, {0, 0}, b} {
			wantNoDir(t, d.Depth, slices.Concat(b, more))
		}
		wantNoDir(t, d.Depth, b[:len(b)-1])
		wantNoDir(t, d.Depth, b[:len(b)-2])
		wantNoDir(t, d.Depth, b[1:])
		wantNoDir(t, d.Depth, b[2:])
		wantNoDir(t, d.Depth, b[:len(b)/2])
	}
	for depth := -2; depth <= 12; depth++ {
		wantNoDir(t, depth, nil)
		wantNoDir(t, depth, []byte{})
	}
	for _, depth := range []int{-1, 11, 12} {
		wantNoDir(t, depth, bodyOf(all(twos(max(depth, 0)), 5)))
	}
}

// P11.4: a slot out of range is ErrForm here, at each place.
func TestGetWrongSlot(t *testing.T) {
	for _, depth := range []int{0, 1, 3, 10} {
		n := twos(depth)
		for _, at := range []int{0, n / 2, n - 1} {
			for _, id := range []int{0, 3001, 65535} {
				wantNoDir(t, depth, bodyOf(with(all(n, 5), at, id)))
			}
			for _, id := range []int{1, 3000} {
				want := Dir{Depth: depth, Slots: with(all(n, 5), at, id)}
				got, err := Get(depth, bodyOf(want.Slots))
				wantDir(t, "Get", got, want)
				if err != api.OK {
					t.Error(err)
				}
			}
		}
	}
}

// Rule 3: bytes and slots share nothing.
func TestBodyIsItsOwn(t *testing.T) {
	d := of(1, 7, 9)
	b, _ := Put(d)
	e, _ := Get(1, b)
	for i := range b {
		b[i] = 0xff
	}
	wantDir(t, "Get, behind a change of the bytes", e, of(1, 7, 9))
	wantDir(t, "what was put", d, of(1, 7, 9))
	e.Slots[0] = 1
	if c, _ := Put(d); !bytes.Equal(c, []byte{0, 7, 0, 9}) {
		t.Errorf("%x", c)
	}
}

// P11.4: Same, in each field, also of those that may not be.
func TestSame(t *testing.T) {
	d := of(2, 1, 2, 3, 4)
	for _, e := range []Dir{
		of(1, 1, 2, 3, 4), of(3, 1, 2, 3, 4), of(-2, 1, 2, 3, 4),
		of(2, 9, 2, 3, 4), of(2, 1, 9, 3, 4), of(2, 1, 2, 3, 9), of(2, 2, 1, 3, 4),
		of(2, 1, 2, 3), of(2, 1, 2, 3, 4, 4), of(2, 1, 2), of(2), {},
	} {
		if Same(d, e) || Same(e, d) {
			t.Error(e)
		}
		if !Same(e, copied(e)) {
			t.Error(e)
		}
	}
	if !Same(d, copied(d)) || !Same(full(10), full(10)) || !Same(of(-1, 0), of(-1, 0)) {
		t.Error("the same")
	}
	if !Same(Dir{Depth: 3}, Dir{Depth: 3, Slots: []int{}}) || !Same(Dir{Slots: []int{}}, Dir{}) {
		t.Error("no slots and nil slots")
	}
	if Same(Dir{Depth: 3}, Dir{Depth: 4, Slots: []int{}}) {
		t.Error("no slots of other depths")
	}
}
