package shadow

import (
	"bytes"
	"testing"

	"intarsia/api"
	"intarsia/disk"
	"intarsia/page"
	"intarsia/root"
)

// P7.1

func checkFormatErr(t *testing.T, what string, d *disk.Disk, want api.Errno) {
	t.Helper()
	s, err := Format(d)
	checkErr(t, "Format of "+what, err, want)
	if s != nil {
		t.Errorf("Format of %s tells an error and a shadow", what)
	}
}

func TestFormatOfTheExample(t *testing.T) {
	d, s := formatted(t, 20)
	if d.Ops() != 5 || d.Reads() != 0 || len(d.Loose()) != 0 {
		t.Errorf("Ops, Reads, Loose = %d, %d, %v", d.Ops(), d.Reads(), d.Loose())
	}
	checkLooks(t, s, "start 0 dirty false ids [] epoch 0 used 3 bad false")
	if !bytes.Equal(raw(t, d, 1), make([]byte, 256)) {
		t.Errorf("block 1 = %x", raw(t, d, 1))
	}
	checkPage(t, d, 2, page.Map, 0, []byte{0xe0, 0, 0})
	checkRoot(t, d, 0, root.Root{Blocks: 20, Maps: []int{2}})
	for n := 3; n < 20; n++ {
		if !bytes.Equal(raw(t, d, n), make([]byte, 256)) {
			t.Errorf("block %d = %x", n, raw(t, d, n))
		}
	}
}

func TestFormatOfNoDisk(t *testing.T) { checkFormatErr(t, "nil", nil, api.ErrNil) }

func TestFormatOfTooFewBlocks(t *testing.T) {
	for blocks := range 4 {
		d := disk.New(blocks)
		checkFormatErr(t, "a small disk", d, api.ErrFull)
		if d.Ops() != 0 || d.Reads() != 0 {
			t.Errorf("of %d blocks: Ops, Reads = %d, %d", blocks, d.Ops(), d.Reads())
		}
	}
	d, s := formatted(t, 4)
	checkUsed(t, s, 3)
	checkRoot(t, d, 0, root.Root{Blocks: 4, Maps: []int{2}})
	alloc(t, s, "x", 1)
	checkAllocErr(t, s, page.Bucket, 0, api.ErrFull)
}

func TestFormatLaysTheMapUponItsPages(t *testing.T) {
	cases := []struct {
		blocks int
		maps   []int
	}{
		{1967, []int{2}}, {1968, []int{2}}, {1969, []int{2, 3}},
		{3936, []int{2, 3}}, {3937, []int{2, 3, 4}}, {4096, []int{2, 3, 4}},
	}
	for _, c := range cases {
		d, s := formatted(t, c.blocks)
		checkRoot(t, d, 0, root.Root{Blocks: c.blocks, Maps: c.maps})
		set := setOf(c.blocks, append([]int{0, 1}, c.maps...)...)
		for i, n := range c.maps {
			checkPage(t, d, n, page.Map, i, set[246*i:min(246*i+246, len(set))])
		}
		checkUsed(t, s, 2+len(c.maps))
		if d.Ops() != 4+len(c.maps) {
			t.Errorf("of %d blocks: Ops = %d", c.blocks, d.Ops())
		}
		checkLooks(t, opened(t, d), looks(s))
	}
}

func TestFormatWritesInOrder(t *testing.T) {
	format := func(d *disk.Disk) api.Errno {
		_, err := Format(d)
		return err
	}
	checkTrace(t, traceOf(t, disk.New(20), format), 1, 2, synced, 0, synced)
	checkTrace(t, traceOf(t, disk.New(1969), format), 1, 2, 3, synced, 0, synced)
	checkTrace(t, traceOf(t, disk.New(4096), format), 1, 2, 3, 4, synced, 0, synced)
}

func TestFormatEndsAtTheFirstErrorOfTheDisk(t *testing.T) {
	for after := range 5 {
		for _, done := range []bool{false, true} {
			d := disk.New(20)
			d.Fail(after, done)
			checkFormatErr(t, "a failing disk", d, api.ErrDown)
			if d.Ops() != after+1 {
				t.Errorf("Ops = %d behind the step %d that failed", d.Ops(), after)
			}
		}
	}
	d := disk.New(20)
	d.Fail(5, false)
	if s, err := Format(d); s == nil || err != api.OK {
		t.Errorf("error %d of a disk that fails behind it", int(err))
	}
}

func TestFormatOfADiskWithoutPower(t *testing.T) {
	down := func(blocks int) *disk.Disk {
		d := disk.New(blocks)
		d.Fail(0, false)
		d.Sync()
		return d
	}
	checkFormatErr(t, "a disk without power", down(4), api.ErrDown)
	checkFormatErr(t, "a small disk without power", down(3), api.ErrFull)
}

// What the disk had is gone, were it of a higher epoch, and in block 1.
func TestFormatOfADiskThatHadPages(t *testing.T) {
	for commits := range 4 {
		d, s := formatted(t, 20)
		for range commits {
			alloc(t, s, "old", s.Epoch()+1)
			commit(t, s)
		}
		f, err := Format(d)
		checkErr(t, "Format", err, api.OK)
		checkLooks(t, f, "start 0 dirty false ids [] epoch 0 used 3 bad false")
		if !bytes.Equal(raw(t, d, 1), make([]byte, 256)) {
			t.Errorf("block 1 = %x", raw(t, d, 1))
		}
		checkLooks(t, opened(t, d), looks(f))
		checkBlocks(t, d)
	}
}

// Behind a failure within Format a new disk has no pages, or is formatted.
func TestFormatThatFailsIsWholeOrNothing(t *testing.T) {
	for after := range 5 {
		for _, done := range []bool{false, true} {
			for _, fate := range fates(2) {
				d := disk.New(9)
				d.Fail(after, done)
				checkFormatErr(t, "a failing disk", d, api.ErrDown)
				d.Crash(fate)
				s, err := Open(d)
				switch {
				case err == api.ErrForm && s == nil && (after < 4 || !done):
				case err == api.OK && after >= 3:
					checkLooks(t, s, "start 0 dirty false ids [] epoch 0 used 3 bad false")
					checkBlocks(t, d)
				default:
					t.Errorf("failed at %d (%v), fate %v: Open tells error %d", after, done, fate, int(err))
				}
			}
		}
	}
}
