package exthash

import (
	"bytes"
	"fmt"
	"slices"
	"testing"

	"intarsia/api"
	"intarsia/pool"
	"intarsia/shadow"
)

// P12.1: a nil pool.
func TestNilPool(t *testing.T) {
	if x, err := Create(nil); x != nil || err != api.ErrNil {
		t.Error(x, int(err))
	}
	for _, head := range []int{-1, 0, 1, 3} {
		if x, err := Open(nil, head); x != nil || err != api.ErrNil {
			t.Error(x, int(err))
		}
	}
}

// P12.1: a bucket, a directory's page and a head, in this order.
func TestCreate(t *testing.T) {
	for _, frames := range []int{1, 2, 3, 64} {
		b := bedOf(t, 30, frames)
		x := create(t, b)
		if x.Head() != 3 || !slices.Equal(b.s.IDs(), []int{1, 2, 3}) {
			t.Fatal(x.Head(), b.s.IDs())
		}
		want := map[int][]byte{1: {0, 0, 0, 0}, 2: {0, 1}, 3: {0, 0, 0, 0, 1, 0, 2}}
		for id, kind := range map[int]int{1: kindOf, 2: dirKind, 3: headKind} {
			if got := bodyOf(t, b.p, id, kind); !bytes.Equal(got, want[id]) {
				t.Errorf("page %d: % x; want % x", id, got, want[id])
			}
		}
		wantEmpty(t, b, x)
		wantPairs(t, x, pairs{})
	}
}

// P12.1: a second table upon one pool has pages of its own.
func TestCreateTwo(t *testing.T) {
	b := bedOf(t, 200, 3)
	x, y := create(t, b), create(t, b)
	if x.Head() != 3 || y.Head() != 6 {
		t.Fatal(x.Head(), y.Head())
	}
	m, n := pairs{}, pairs{}
	for i := range 40 {
		put(t, x, m, fmt.Sprint("k", i), numbered(i, 30))
		put(t, y, n, fmt.Sprint("k", i), numbered(i+1, 30))
	}
	wantPairs(t, x, m)
	wantPairs(t, y, n)
	own, _ := x.Pages()
	others, _ := y.Pages()
	all := append(own, others...)
	slices.Sort(all)
	if !slices.Equal(all, b.s.IDs()) || x.Check() != api.OK || y.Check() != api.OK {
		t.Error(all, b.s.IDs())
	}
}

// P12.1: the disk is too small for one of the three pages.
func TestCreateFull(t *testing.T) {
	for blocks := 4; blocks < 6; blocks++ {
		b := bedOf(t, blocks, 2)
		if x, err := Create(b.p); x != nil || err != api.ErrFull {
			t.Errorf("%d blocks: %v, error %d", blocks, x, int(err))
		}
	}
	b := bedOf(t, 6, 2)
	create(t, b)
}

// P12.1: a table with none, a few and many pairs is opened as it is, by the
// same pool, and by another one behind a commit.
func TestOpen(t *testing.T) {
	for _, count := range []int{0, 1, 5, 60, 900} {
		b, x := made(t, 8)
		m := pairs{}
		for i := range count {
			put(t, x, m, fmt.Sprint("key", i/2), numbered(i, i%100+4))
		}
		y := open(t, b, x.Head())
		if y.Head() != x.Head() || y.Depth() != x.Depth() || y.Len() != count {
			t.Fatal(count, y.Head(), y.Depth(), y.Len())
		}
		wantPairs(t, y, m)
		checkErr(t, "SetStart", b.s.SetStart(x.Head()), api.OK)
		checkErr(t, "Commit", b.p.Commit(), api.OK)
		c := again(t, b, 2, nil)
		z := open(t, c, c.s.Start())
		wantWell(t, c, z, m)
		wantPairs(t, z, m)
		put(t, z, m, "more", "")
		wantWell(t, c, z, m)
	}
}

// wantNone: Open refuses what is no table.
func wantNone(t *testing.T, what string, p *pool.Pool, head int, want api.Errno) {
	t.Helper()
	if x, err := Open(p, head); x != nil || err != want {
		t.Errorf("%s: %v, error %d; want %d", what, x, int(err), int(want))
	}
}

// P12.1: the pool's error of an id that is no page; ErrForm of a page of
// another kind.
func TestOpenOther(t *testing.T) {
	b, x := made(t, 2)
	for _, id := range []int{-1, 0, 4, 3000, 3001, 1 << 40, -1 << 63} {
		wantNone(t, fmt.Sprint("id ", id), b.p, id, api.ErrNone)
	}
	wantNone(t, "a bucket", b.p, 1, api.ErrForm)
	wantNone(t, "a directory's page", b.p, 2, api.ErrForm)
	for kind := 1; kind <= 5; kind++ {
		id, _ := b.p.Alloc(kind, []byte{0, 0, 0, 0, 1, 0, 2})
		if kind == headKind {
			open(t, b, id)
		} else {
			wantNone(t, fmt.Sprint("a head's bytes in a page of kind ", kind), b.p, id, api.ErrForm)
		}
	}
	wantPairs(t, x, pairs{})
}

// P12.1: a head whose bytes are none. The pages that it seems to tell are not
// looked at.
func TestOpenHeadBytes(t *testing.T) {
	b, _ := made(t, 4)
	ok := []byte{0, 0, 0, 0, 1, 0, 2}
	bodies := [][]byte{
		nil,
		{0},
		{0, 0, 0, 0},
		{0, 0, 0, 0, 0},
		{0, 0, 0, 0, 0, 0, 2},
		{0, 0, 0, 0, 2, 0, 2},
		{0, 0, 0, 0, 2, 0, 2, 0, 2},
		{0, 0, 0, 0, 1, 0},
		{0, 0, 0, 0, 1, 0, 2, 0},
		{0, 0, 0, 0, 1, 0, 2, 0, 2},
		{11, 0, 0, 0, 1, 0, 99},
		{255, 0, 0, 0, 1, 0, 99},
		{10, 0, 0, 0, 1, 0, 99},
		{7, 0, 0, 0, 1, 0, 99},
		{6, 0, 0, 0, 2, 0, 99, 0, 98},
		slices.Concat([]byte{11, 0, 0, 0, 17}, make([]byte, 34)),
		bytes.Repeat([]byte{255}, room),
		make([]byte, room),
	}
	for _, body := range bodies {
		id, _ := b.p.Alloc(headKind, body)
		wantNone(t, fmt.Sprintf("% x", body), b.p, id, api.ErrForm)
	}
	id, _ := b.p.Alloc(headKind, ok)
	open(t, b, id)
}

// headOf lays a head.
func headOf(p *pool.Pool, depth, count int, dirs ...int) int {
	body := []byte{byte(depth), byte(count >> 16), byte(count >> 8), byte(count), byte(len(dirs))}
	for _, id := range dirs {
		body = append(body, byte(id>>8), byte(id))
	}
	id, _ := p.Alloc(headKind, body)
	return id
}

// P12.1: a head whose directory's pages are none, or tell none.
func TestOpenDirectory(t *testing.T) {
	b, _ := made(t, 4)
	lay := func(kind int, body ...byte) int {
		id, _ := b.p.Alloc(kind, body)
		return id
	}
	wantNone(t, "no page", b.p, headOf(b.p, 0, 0, 2000), api.ErrNone)
	wantNone(t, "the page 0", b.p, headOf(b.p, 0, 0, 0), api.ErrNone)
	wantNone(t, "a page beyond all", b.p, headOf(b.p, 0, 0, 65535), api.ErrNone)
	wantNone(t, "a bucket", b.p, headOf(b.p, 0, 0, 1), api.ErrForm)
	wantNone(t, "a head", b.p, headOf(b.p, 0, 0, 3), api.ErrForm)
	wantNone(t, "slots in a bucket", b.p, headOf(b.p, 0, 0, lay(kindOf, 0, 1)), api.ErrForm)
	for _, body := range [][]byte{nil, {0}, {1}, {0, 1, 0}, {0, 1, 0, 1}, {0, 0}, {11, 185}, {255, 255}} {
		wantNone(t, fmt.Sprintf("the slots % x", body), b.p, headOf(b.p, 0, 0, lay(dirKind, body...)), api.ErrForm)
	}
	wantNone(t, "one slot at depth 1", b.p, headOf(b.p, 1, 0, 2), api.ErrForm)
	if x := open(t, b, headOf(b.p, 1, 0, lay(dirKind, 0, 1, 0, 1))); x.Depth() != 1 {
		t.Error(x.Depth())
	}
	if x := open(t, b, headOf(b.p, 0, 0, lay(dirKind, 11, 184))); x.Depth() != 0 {
		t.Error("the slot 3000")
	}
}

// P12.1: a directory of three pages, in pieces of 246 bytes, each page once.
func TestOpenPieces(t *testing.T) {
	b, _ := made(t, 4)
	lay := func(words int) int {
		id, _ := b.p.Alloc(dirKind, bytes.Repeat([]byte{0, 1}, words))
		return id
	}
	first, second, third := lay(123), lay(123), lay(10)
	if x := open(t, b, headOf(b.p, 8, 77, first, second, third)); x.Depth() != 8 || x.Len() != 77 {
		t.Error(x.Depth(), x.Len())
	}
	for _, dirs := range [][]int{{first, first, third}, {first, third, second}, {third, first, second}, {first, second}, {first, second, third, lay(10)}, {first, second, lay(11)}, {first, second, lay(9)}, {first, lay(122), lay(11)}, {lay(122), first, lay(11)}} {
		wantNone(t, fmt.Sprint(dirs), b.p, headOf(b.p, 8, 0, dirs...), api.ErrForm)
	}
}

// P12.1: the error of a pool whose shadow is bad.
func TestOpenBadShadow(t *testing.T) {
	b, x := made(t, 1)
	checkErr(t, "Flush", b.p.Flush(), api.OK)
	checkErr(t, "Fail", b.d.Fail(0, false), api.OK)
	b.d.Sync()
	p, _ := pool.New(b.s, 1)
	wantNone(t, "without power", p, x.Head(), api.ErrDown)
	wantNone(t, "bad", p, x.Head(), api.ErrState)
	if y, err := Create(p); y != nil || err != api.ErrState {
		t.Error(y, int(err))
	}
	b.d.Crash(nil)
	s, _ := shadow.Open(b.d)
	p, _ = pool.New(s, 1)
	wantNone(t, "nothing was settled", p, x.Head(), api.ErrNone)
}
