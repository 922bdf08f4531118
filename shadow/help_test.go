package shadow

import (
	"bytes"
	"fmt"
	"slices"
	"testing"

	"intarsia/api"
	"intarsia/disk"
	"intarsia/page"
	"intarsia/root"
)

func checkErr(t *testing.T, what string, got, want api.Errno) {
	t.Helper()
	if got != want {
		t.Errorf("%s: error %d; want %d", what, int(got), int(want))
	}
}

// formatted is a new disk of so many blocks, and its shadow.
func formatted(t *testing.T, blocks int) (*disk.Disk, *Shadow) {
	t.Helper()
	d := disk.New(blocks)
	s, err := Format(d)
	if s == nil || err != api.OK {
		t.Fatalf("Format of %d blocks: error %d", blocks, int(err))
	}
	return d, s
}

func opened(t *testing.T, d *disk.Disk) *Shadow {
	t.Helper()
	s, err := Open(d)
	if s == nil || err != api.OK {
		t.Fatalf("Open: error %d", int(err))
	}
	return s
}

func alloc(t *testing.T, s *Shadow, body string, want int) {
	t.Helper()
	id, err := s.Alloc(page.Bucket, []byte(body))
	if id != want || err != api.OK {
		t.Errorf("Alloc(%q) = %d, error %d; want %d", body, id, int(err), want)
	}
}

// allocs makes so many pages, each with its id as its body, from an id on.
func allocs(t *testing.T, s *Shadow, from, count int) {
	t.Helper()
	for i := range count {
		alloc(t, s, fmt.Sprint(from+i), from+i)
	}
}

func checkAllocErr(t *testing.T, s *Shadow, kind, length int, want api.Errno) {
	t.Helper()
	id, err := s.Alloc(kind, make([]byte, length))
	checkErr(t, fmt.Sprintf("Alloc(%d, of %d bytes)", kind, length), err, want)
	if id != 0 {
		t.Errorf("Alloc tells an error and the id %d", id)
	}
}

func write(t *testing.T, s *Shadow, id int, body string) {
	t.Helper()
	checkErr(t, fmt.Sprintf("Write(%d, %q)", id, body), s.Write(id, page.Bucket, []byte(body)), api.OK)
}

func free(t *testing.T, s *Shadow, id int) {
	t.Helper()
	checkErr(t, fmt.Sprintf("Free(%d)", id), s.Free(id), api.OK)
}

func setStart(t *testing.T, s *Shadow, id int) {
	t.Helper()
	checkErr(t, fmt.Sprintf("SetStart(%d)", id), s.SetStart(id), api.OK)
	if s.Start() != id {
		t.Errorf("Start() = %d; want %d", s.Start(), id)
	}
}

func commit(t *testing.T, s *Shadow) {
	t.Helper()
	checkErr(t, "Commit", s.Commit(), api.OK)
}

func abort(t *testing.T, s *Shadow) {
	t.Helper()
	checkErr(t, "Abort", s.Abort(), api.OK)
}

func checkRead(t *testing.T, s *Shadow, id, kind int, body string) {
	t.Helper()
	k, b, err := s.Read(id)
	if k != kind || string(b) != body || err != api.OK {
		t.Errorf("Read(%d) = %d, %q, error %d; want %d, %q", id, k, b, int(err), kind, body)
	}
}

func checkReadErr(t *testing.T, s *Shadow, id int, want api.Errno) {
	t.Helper()
	k, b, err := s.Read(id)
	if k != 0 || len(b) != 0 || err != want {
		t.Errorf("Read(%d) = %d, %q, error %d; want nothing, error %d", id, k, b, int(err), int(want))
	}
}

func checkUsed(t *testing.T, s *Shadow, want int) {
	t.Helper()
	if s.Used() != want {
		t.Errorf("Used() = %d; want %d", s.Used(), want)
	}
}

func checkIDs(t *testing.T, s *Shadow, want ...int) {
	t.Helper()
	if got := s.IDs(); !slices.Equal(got, want) {
		t.Errorf("IDs() = %v; want %v", got, want)
	}
}

// looks is all that the looks tell, as one text.
func looks(s *Shadow) string {
	return fmt.Sprint("start ", s.Start(), " dirty ", s.Dirty(), " ids ", s.IDs(), " epoch ", s.Epoch(), " used ", s.Used(), " bad ", s.Bad())
}

func checkLooks(t *testing.T, s *Shadow, want string) {
	t.Helper()
	if got := looks(s); got != want {
		t.Errorf("looks: %s; want %s", got, want)
	}
}

// raw is a block's bytes.
func raw(t *testing.T, d *disk.Disk, n int) []byte {
	t.Helper()
	b, err := d.Read(n)
	checkErr(t, fmt.Sprintf("the disk's Read(%d)", n), err, api.OK)
	return b
}

// image is a disk's bytes, one block behind the other.
func image(t *testing.T, d *disk.Disk) []byte {
	t.Helper()
	var all []byte
	for n := range d.Blocks() {
		all = append(all, raw(t, d, n)...)
	}
	return all
}

func sealed(t *testing.T, kind, id int, body []byte) []byte {
	t.Helper()
	b, err := page.Seal(kind, id, body)
	checkErr(t, "page.Seal", err, api.OK)
	return b
}

// checkPage tells whether a page's bytes stand in a block.
func checkPage(t *testing.T, d *disk.Disk, n, kind, id int, body []byte) {
	t.Helper()
	if got, want := raw(t, d, n), sealed(t, kind, id, body); !bytes.Equal(got, want) {
		t.Errorf("block %d = %x; want the page %d of the kind %d with %x", n, got, id, kind, body)
	}
}

func checkBucket(t *testing.T, d *disk.Disk, n, id int, body string) {
	t.Helper()
	checkPage(t, d, n, page.Bucket, id, []byte(body))
}

func checkRoot(t *testing.T, d *disk.Disk, n int, want root.Root) {
	t.Helper()
	b, err := root.Put(want)
	checkErr(t, "root.Put", err, api.OK)
	if got := raw(t, d, n); !bytes.Equal(got, b) {
		r, err := root.Get(got)
		t.Errorf("block %d: root %+v, error %d; want %+v", n, r, int(err), want)
	}
}

// setOf is the set of some blocks of a disk, by the words of the chapter of
// layer 4.
func setOf(blocks int, in ...int) []byte {
	m := make([]byte, (blocks+7)/8)
	for _, n := range in {
		m[n/8] |= 128 >> (n % 8)
	}
	return m
}

// wordsOf is numbers as pairs of bytes.
func wordsOf(l ...int) []byte {
	var b []byte
	for _, n := range l {
		b = append(b, byte(n>>8), byte(n))
	}
	return b
}

const synced = -1 // a Sync in a trace

// trace tells the steps that a call of a shadow does upon the disk: the blocks
// that are written, and synced. It lets the power fail behind each step of it
// anew, and looks which block that step has made loose.
func trace(t *testing.T, d *disk.Disk, s *Shadow, call func(s *Shadow) api.Errno) []int {
	t.Helper()
	return traceOf(t, d, func(d *disk.Disk) api.Errno { return call(s.Fork(d)) })
}

func traceOf(t *testing.T, d *disk.Disk, call func(d *disk.Disk) api.Errno) []int {
	t.Helper()
	var steps, ahead []int
	for after := 0; ; after++ {
		own := d.Fork()
		checkErr(t, "Sync", own.Sync(), api.OK)
		ops := own.Ops()
		own.Fail(after, true)
		err := call(own)
		if !own.Down() {
			if own.Ops() != ops+after {
				t.Errorf("%d steps; traced %v", own.Ops()-ops, steps)
			}
			return steps
		}
		checkErr(t, "a step that fails", err, api.ErrDown)
		loose := own.Loose()
		step := synced
		for _, n := range loose {
			if !slices.Contains(ahead, n) {
				step = n
			}
		}
		steps, ahead = append(steps, step), loose
	}
}

func checkTrace(t *testing.T, got []int, want ...int) {
	t.Helper()
	if !slices.Equal(got, want) {
		t.Errorf("steps %v; want %v", got, want)
	}
}

// content is what a page has.
type content struct {
	kind int
	body string
}

// counting is what of a shadow counts: its pages, which one is the first, and
// the epoch.
type counting struct {
	pages map[int]content
	start int
	epoch int
}

func countingOf(t *testing.T, s *Shadow) counting {
	t.Helper()
	c := counting{pages: map[int]content{}, start: s.Start(), epoch: s.Epoch()}
	for _, id := range s.IDs() {
		kind, body, err := s.Read(id)
		checkErr(t, fmt.Sprintf("Read(%d)", id), err, api.OK)
		c.pages[id] = content{kind, string(body)}
	}
	return c
}

func (c counting) text() string { return fmt.Sprint(c.start, c.epoch, c.pages) }

// checkBlocks looks at a disk's blocks alone: each one is a root's, the
// table's, the map's or a page's, each once, or free, and the map tells so. It
// tells how many are not free.
func checkBlocks(t *testing.T, d *disk.Disk) int {
	t.Helper()
	r := rootOf(t, d)
	if r.Blocks != d.Blocks() {
		t.Errorf("the root tells %d blocks of %d", r.Blocks, d.Blocks())
	}
	var words, set []byte
	whose := map[int]string{0: "root", 1: "root"}
	have := func(n int, what string) {
		if ahead, ok := whose[n]; ok || n < 0 || n >= d.Blocks() {
			t.Errorf("block %d is %s's, and %s's", n, what, ahead)
		}
		whose[n] = what
	}
	for i, n := range r.Tables {
		have(n, "table")
		words = append(words, checkBody(t, d, n, page.Table, i)...)
	}
	for i, n := range r.Maps {
		have(n, "map")
		set = append(set, checkBody(t, d, n, page.Map, i)...)
	}
	if len(words) != 2*r.Next || len(r.Tables) != (r.Next+122)/123 {
		t.Errorf("%d bytes of words upon %d pages; Next is %d", len(words), len(r.Tables), r.Next)
	}
	for i := 0; i+1 < len(words); i += 2 {
		if n := int(words[i])<<8 | int(words[i+1]); n != 0 {
			have(n, "page")
			if _, id, _, err := page.Open(raw(t, d, n)); id != i/2+1 || err != api.OK {
				t.Errorf("block %d has the page %d, error %d; want %d", n, id, int(err), i/2+1)
			}
		}
	}
	var used []int
	for n := range whose {
		used = append(used, n)
	}
	if want := setOf(d.Blocks(), used...); !bytes.Equal(set, want) {
		t.Errorf("the map %x; want %x", set, want)
	}
	return len(used)
}

func checkBody(t *testing.T, d *disk.Disk, n, kind, id int) []byte {
	t.Helper()
	k, i, body, err := page.Open(raw(t, d, n))
	if k != kind || i != id || err != api.OK {
		t.Errorf("block %d: kind %d, id %d, error %d; want %d, %d", n, k, i, int(err), kind, id)
	}
	return body
}

// rootOf is the root that counts.
func rootOf(t *testing.T, d *disk.Disk) root.Root {
	t.Helper()
	r, _, err := root.Choose(raw(t, d, 0), raw(t, d, 1))
	checkErr(t, "root.Choose", err, api.OK)
	return r
}
