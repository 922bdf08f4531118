package pool

import (
	"bytes"
	"fmt"
	"slices"
	"testing"

	"intarsia/api"
	"intarsia/disk"
	"intarsia/page"
	"intarsia/shadow"
)

func checkErr(t *testing.T, what string, got, want api.Errno) {
	t.Helper()
	if got != want {
		t.Errorf("%s: error %d; want %d", what, int(got), int(want))
	}
}

// laid is a disk with so many pages that count, each with its id as its body,
// and a pool of so many frames, none of which holds a page yet. The pages stand
// upon the blocks from 3 on, the table and the map upon the next two, and
// block 2 is free, and what is behind the map.
func laid(t *testing.T, blocks, pages, frames int) (*disk.Disk, *shadow.Shadow, *Pool) {
	t.Helper()
	d := disk.New(blocks)
	s, err := shadow.Format(d)
	checkErr(t, "Format", err, api.OK)
	for i := range pages {
		id, err := s.Alloc(page.Bucket, fmt.Append(nil, i+1))
		if id != i+1 || err != api.OK {
			t.Fatalf("the shadow's Alloc = %d, error %d; want %d", id, int(err), i+1)
		}
	}
	checkErr(t, "the shadow's Commit", s.Commit(), api.OK)
	return d, s, pooled(t, s, frames)
}

// roomy is as laid, upon a disk that has room for all of it many times.
func roomy(t *testing.T, pages, frames int) (*disk.Disk, *shadow.Shadow, *Pool) {
	t.Helper()
	return laid(t, 60, pages, frames)
}

func pooled(t *testing.T, s *shadow.Shadow, frames int) *Pool {
	t.Helper()
	p, err := New(s, frames)
	if p == nil || err != api.OK {
		t.Fatalf("New with %d frames: error %d", frames, int(err))
	}
	return p
}

func checkGet(t *testing.T, p *Pool, id, kind int, body string) {
	t.Helper()
	k, b, err := p.Get(id)
	if k != kind || string(b) != body || err != api.OK {
		t.Errorf("Get(%d) = %d, %q, error %d; want %d, %q", id, k, b, int(err), kind, body)
	}
}

func checkGetErr(t *testing.T, p *Pool, id int, want api.Errno) {
	t.Helper()
	k, b, err := p.Get(id)
	if k != 0 || len(b) != 0 || err != want {
		t.Errorf("Get(%d) = %d, %q, error %d; want nothing, error %d", id, k, b, int(err), int(want))
	}
}

// gets gets pages that have their ids as their bodies.
func gets(t *testing.T, p *Pool, ids ...int) {
	t.Helper()
	for _, id := range ids {
		checkGet(t, p, id, page.Bucket, fmt.Sprint(id))
	}
}

func set(t *testing.T, p *Pool, id int, body string) {
	t.Helper()
	checkErr(t, fmt.Sprintf("Set(%d, %q)", id, body), p.Set(id, page.Bucket, []byte(body)), api.OK)
}

func checkSetErr(t *testing.T, p *Pool, id, kind, length int, want api.Errno) {
	t.Helper()
	checkErr(t, fmt.Sprintf("Set(%d, %d, of %d bytes)", id, kind, length), p.Set(id, kind, make([]byte, length)), want)
}

func alloc(t *testing.T, p *Pool, body string, want int) {
	t.Helper()
	id, err := p.Alloc(page.Bucket, []byte(body))
	if id != want || err != api.OK {
		t.Errorf("Alloc(%q) = %d, error %d; want %d", body, id, int(err), want)
	}
}

func checkAllocErr(t *testing.T, p *Pool, kind, length int, want api.Errno) {
	t.Helper()
	id, err := p.Alloc(kind, make([]byte, length))
	if id != 0 || err != want {
		t.Errorf("Alloc(%d, of %d bytes) = %d, error %d; want 0, error %d", kind, length, id, int(err), int(want))
	}
}

func free(t *testing.T, p *Pool, id int) {
	t.Helper()
	checkErr(t, fmt.Sprintf("Free(%d)", id), p.Free(id), api.OK)
}

func pin(t *testing.T, p *Pool, ids ...int) {
	t.Helper()
	for _, id := range ids {
		checkErr(t, fmt.Sprintf("Pin(%d)", id), p.Pin(id), api.OK)
	}
}

func unpin(t *testing.T, p *Pool, ids ...int) {
	t.Helper()
	for _, id := range ids {
		checkErr(t, fmt.Sprintf("Unpin(%d)", id), p.Unpin(id), api.OK)
	}
}

func flush(t *testing.T, p *Pool) {
	t.Helper()
	checkErr(t, "Flush", p.Flush(), api.OK)
}

func commit(t *testing.T, p *Pool) {
	t.Helper()
	checkErr(t, "Commit", p.Commit(), api.OK)
}

func checkHeld(t *testing.T, p *Pool, want ...int) {
	t.Helper()
	if got := p.Held(); !slices.Equal(got, want) {
		t.Errorf("Held() = %v; want %v", got, want)
	}
}

// looks is all that the looks tell, as one text; a page that is pinned stands
// there with a * for each time.
func looks(p *Pool) string {
	text := "held"
	for _, id := range p.Held() {
		text += fmt.Sprintf(" %d%s", id, bytes.Repeat([]byte("*"), p.Pins(id)))
	}
	return text + fmt.Sprintf(", hits %d, misses %d", p.Hits(), p.Misses())
}

func checkLooks(t *testing.T, p *Pool, want string) {
	t.Helper()
	if got := looks(p); got != want {
		t.Errorf("looks: %s; want %s", got, want)
	}
}

// checkUnder tells whether the shadow has a page so, whatever the pool has.
func checkUnder(t *testing.T, s *shadow.Shadow, id, kind int, body string) {
	t.Helper()
	k, b, err := s.Read(id)
	if k != kind || string(b) != body || err != api.OK {
		t.Errorf("the shadow's Read(%d) = %d, %q, error %d; want %d, %q", id, k, b, int(err), kind, body)
	}
}

// checkSteps tells whether a call does so many writes and syncs, and reads,
// upon the disk.
func checkSteps(t *testing.T, d *disk.Disk, ops, reads int, call func()) {
	t.Helper()
	o, r := d.Ops(), d.Reads()
	call()
	if d.Ops()-o != ops || d.Reads()-r != reads {
		t.Errorf("%d writes and syncs, %d reads; want %d, %d", d.Ops()-o, d.Reads()-r, ops, reads)
	}
}

// checkBlock tells whether a block has a page so.
func checkBlock(t *testing.T, d *disk.Disk, n, id int, body string) {
	t.Helper()
	b, err := d.Read(n)
	checkErr(t, fmt.Sprintf("the disk's Read(%d)", n), err, api.OK)
	_, i, got, err := page.Open(b)
	if i != id || string(got) != body || err != api.OK {
		t.Errorf("block %d: page %d, %q, error %d; want %d, %q", n, i, got, int(err), id, body)
	}
}

// spoil writes a block anew behind the shadow's back, so that it is no page.
func spoil(t *testing.T, d *disk.Disk, n int) {
	t.Helper()
	checkErr(t, "the disk's Write", d.Write(n, make([]byte, api.BlockSize)), api.OK)
}

// powerFails lets the disk be without power.
func powerFails(t *testing.T, d *disk.Disk) {
	t.Helper()
	checkErr(t, "Fail", d.Fail(0, false), api.OK)
	checkErr(t, "Sync", d.Sync(), api.ErrDown)
}

// turnBad lets the shadow meet a disk without power, which comes again then.
func turnBad(t *testing.T, d *disk.Disk, s *shadow.Shadow) {
	t.Helper()
	powerFails(t, d)
	if _, _, err := s.Read(s.IDs()[0]); err != api.ErrDown || !s.Bad() {
		t.Errorf("the shadow's Read: error %d, bad %v", int(err), s.Bad())
	}
	d.Crash(nil)
}
