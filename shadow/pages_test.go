package shadow

import (
	"bytes"
	"fmt"
	"math"
	"strings"
	"testing"

	"intarsia/api"
	"intarsia/disk"
	"intarsia/page"
)

// P7.3

// calls is each call that answers an error.
func calls() map[string]func(s *Shadow) api.Errno {
	return map[string]func(s *Shadow) api.Errno{
		"Alloc": func(s *Shadow) api.Errno {
			id, err := s.Alloc(page.Bucket, []byte("x"))
			if id != 0 && err != api.OK {
				return -1
			}
			return err
		},
		"Alloc of a wrong kind": func(s *Shadow) api.Errno {
			_, err := s.Alloc(0, nil)
			return err
		},
		"Read": func(s *Shadow) api.Errno {
			kind, body, err := s.Read(1)
			if (kind != 0 || body != nil) && err != api.OK {
				return -1
			}
			return err
		},
		"Read of no page": func(s *Shadow) api.Errno {
			_, _, err := s.Read(9)
			return err
		},
		"Write":               func(s *Shadow) api.Errno { return s.Write(1, page.Bucket, []byte("y")) },
		"Write of no page":    func(s *Shadow) api.Errno { return s.Write(9, page.Bucket, nil) },
		"Free":                func(s *Shadow) api.Errno { return s.Free(1) },
		"Free of no page":     func(s *Shadow) api.Errno { return s.Free(9) },
		"Free of Start":       func(s *Shadow) api.Errno { return s.Free(2) },
		"SetStart":            func(s *Shadow) api.Errno { return s.SetStart(1) },
		"SetStart of 0":       func(s *Shadow) api.Errno { return s.SetStart(0) },
		"SetStart of no page": func(s *Shadow) api.Errno { return s.SetStart(9) },
		"Commit":              func(s *Shadow) api.Errno { return s.Commit() },
		"Abort":               func(s *Shadow) api.Errno { return s.Abort() },
	}
}

func TestCallsOfNil(t *testing.T) {
	for name, call := range calls() {
		checkErr(t, name, call(nil), api.ErrNil)
	}
}

func TestLooksOfNil(t *testing.T) {
	var s *Shadow
	checkLooks(t, s, "start 0 dirty false ids [] epoch 0 used 0 bad false")
	if s.IDs() != nil || s.Fork(disk.New(20)) != nil || s.Fork(nil) != nil {
		t.Error("something of nil")
	}
}

// started is a shadow with the pages 1 and 2 that count, and a page 3 that does
// not yet.
func started(t *testing.T) (*disk.Disk, *Shadow) {
	t.Helper()
	d, s := formatted(t, 20)
	allocs(t, s, 1, 2)
	setStart(t, s, 2)
	commit(t, s)
	alloc(t, s, "3", 3)
	return d, s
}

// An error of the disk is answered, nothing has changed but that it is bad, and
// behind it every call tells so.
func TestEveryCallBehindAnErrorOfTheDisk(t *testing.T) {
	meets := map[string]func(s *Shadow) api.Errno{
		"Alloc":             calls()["Alloc"],
		"Write":             calls()["Write"],
		"Write, fresh":      func(s *Shadow) api.Errno { return s.Write(3, page.Head, []byte("three")) },
		"Commit":            calls()["Commit"],
		"Read":              calls()["Read"],
		"Read of a fresh 3": func(s *Shadow) api.Errno { _, _, err := s.Read(3); return err },
	}
	for name, meet := range meets {
		for _, done := range []bool{false, true} {
			d, s := started(t)
			want := strings.Replace(looks(s), "bad false", "bad true", 1)
			d.Fail(0, done)
			if strings.HasPrefix(name, "Read") {
				d.Sync()
			}
			checkErr(t, name, meet(s), api.ErrDown)
			checkLooks(t, s, want)
			checkBadCalls(t, d, s, want)
			d.Crash(nil)
			checkBadCalls(t, d, s, want)
		}
	}
}

func checkBadCalls(t *testing.T, d *disk.Disk, s *Shadow, want string) {
	t.Helper()
	ops, reads := d.Ops(), d.Reads()
	for name, call := range calls() {
		checkErr(t, name+" of a bad one", call(s), api.ErrState)
	}
	if d.Ops() != ops || d.Reads() != reads {
		t.Error("a bad one goes to the disk")
	}
	checkLooks(t, s, want)
	checkLooks(t, s.Fork(d), want)
	if _, err := s.Fork(d).Alloc(page.Bucket, nil); err != api.ErrState {
		t.Errorf("Alloc of a bad one's fork: error %d", int(err))
	}
}

// Errors that are not the disk's don't make it bad, and change nothing.
func TestOtherErrorsChangeNothing(t *testing.T) {
	d, s := started(t)
	want, bytes := looks(s), string(image(t, d))
	for range 2 {
		checkAllocErr(t, s, 0, 0, api.ErrKind)
		checkAllocErr(t, s, 5, 247, api.ErrLong)
		checkReadErr(t, s, 4, api.ErrNone)
		checkErr(t, "Write", s.Write(4, 5, nil), api.ErrNone)
		checkErr(t, "Write", s.Write(1, 6, nil), api.ErrKind)
		checkErr(t, "Write", s.Write(1, 5, make([]byte, 247)), api.ErrLong)
		checkErr(t, "Free", s.Free(4), api.ErrNone)
		checkErr(t, "Free", s.Free(2), api.ErrArg)
		checkErr(t, "SetStart", s.SetStart(4), api.ErrNone)
		checkLooks(t, s, want)
	}
	if string(image(t, d)) != bytes {
		t.Error("the disk was changed")
	}
	commit(t, s)
	checkBlocks(t, d)
}

// P7.4: Alloc

func TestAllocOfTheExample(t *testing.T) {
	d, s := formatted(t, 20)
	alloc(t, s, "x", 1)
	checkBucket(t, d, 3, 1, "x")
	checkLooks(t, s, "start 0 dirty true ids [1] epoch 0 used 4 bad false")
	checkRead(t, s, 1, page.Bucket, "x")
}

func TestAllocWritesOneBlock(t *testing.T) {
	d, s := formatted(t, 20)
	checkTrace(t, trace(t, d, s, calls()["Alloc"]), 3)
	alloc(t, s, "x", 1)
	checkTrace(t, trace(t, d, s, calls()["Alloc"]), 4)
	if d.Reads() != 0 {
		t.Errorf("Reads = %d", d.Reads())
	}
}

func TestAllocOfKindsAndBodies(t *testing.T) {
	d, s := formatted(t, 60)
	id := 0
	for kind := 1; kind <= 5; kind++ {
		for _, n := range []int{0, 1, 245, 246} {
			id++
			body := strings.Repeat("b", n)
			got, err := s.Alloc(kind, []byte(body))
			if got != id || err != api.OK {
				t.Errorf("Alloc(%d, of %d bytes) = %d, error %d", kind, n, got, int(err))
			}
			checkRead(t, s, id, kind, body)
			checkPage(t, d, 2+id, kind, id, []byte(body))
		}
	}
	for _, kind := range []int{0, 6, -1, 256, 257, math.MinInt, math.MaxInt} {
		checkAllocErr(t, s, kind, 0, api.ErrKind)
		checkAllocErr(t, s, kind, 247, api.ErrKind)
	}
	checkAllocErr(t, s, 5, 247, api.ErrLong)
	checkAllocErr(t, s, 1, 100000, api.ErrLong)
	if len(s.IDs()) != id {
		t.Errorf("%d ids", len(s.IDs()))
	}
}

func TestAllocTakesTheLowestID(t *testing.T) {
	_, s := formatted(t, 60)
	allocs(t, s, 1, 6)
	free(t, s, 4)
	free(t, s, 2)
	free(t, s, 6)
	alloc(t, s, "two", 2)
	alloc(t, s, "four", 4)
	alloc(t, s, "six", 6)
	alloc(t, s, "seven", 7)
	commit(t, s)
	free(t, s, 7)
	free(t, s, 1)
	alloc(t, s, "one", 1)
	alloc(t, s, "seven", 7)
	alloc(t, s, "eight", 8)
	free(t, s, 3)
	commit(t, s)
	alloc(t, s, "three", 3)
	checkIDs(t, s, 1, 2, 3, 4, 5, 6, 7, 8)
}

// An id that is free at once may be had again at once, though its block is not.
func TestAllocOfAnIDWhoseBlockCountsStill(t *testing.T) {
	d, s := formatted(t, 20)
	alloc(t, s, "old", 1)
	commit(t, s)
	free(t, s, 1)
	alloc(t, s, "new", 1)
	checkBucket(t, d, 3, 1, "old")
	checkBucket(t, d, 2, 1, "new")
	checkRead(t, s, 1, page.Bucket, "new")
	abort(t, s)
	checkRead(t, s, 1, page.Bucket, "old")
}

func TestAllocTakesTheLowestFreeBlock(t *testing.T) {
	d, s := formatted(t, 20)
	allocs(t, s, 1, 4)
	for id := 1; id <= 4; id++ {
		checkBucket(t, d, 2+id, id, fmt.Sprint(id))
	}
	free(t, s, 2)
	free(t, s, 3)
	alloc(t, s, "two", 2)
	checkBucket(t, d, 4, 2, "two")
	alloc(t, s, "three", 3)
	checkBucket(t, d, 5, 3, "three")
	commit(t, s)
	// The pages upon 3 to 6, the table upon 7, the map upon 8.
	alloc(t, s, "five", 5)
	checkBucket(t, d, 2, 5, "five")
	alloc(t, s, "six", 6)
	checkBucket(t, d, 9, 6, "six")
	free(t, s, 3)
	alloc(t, s, "again", 3)
	checkBucket(t, d, 10, 3, "again")
	checkBucket(t, d, 5, 3, "three")
}

func TestAllocOfAFullDisk(t *testing.T) {
	// Of 21 to 24 blocks the map has the same three bytes.
	for blocks := 20; blocks <= 25; blocks++ {
		d, s := formatted(t, blocks)
		allocs(t, s, 1, blocks-3)
		want := looks(s)
		ops := d.Ops()
		checkAllocErr(t, s, page.Bucket, 0, api.ErrFull)
		checkAllocErr(t, s, 6, 0, api.ErrKind)
		checkAllocErr(t, s, 5, 247, api.ErrLong)
		if d.Ops() != ops {
			t.Errorf("%d steps of an Alloc that tells ErrFull", d.Ops()-ops)
		}
		checkLooks(t, s, want)
		checkUsed(t, s, blocks)
		free(t, s, 5)
		alloc(t, s, "five", 5)
		checkBucket(t, d, 7, 5, "five")
		checkAllocErr(t, s, page.Bucket, 0, api.ErrFull)
	}
}

func TestAllocOfAllIDs(t *testing.T) {
	_, s := formatted(t, 4096)
	allocs(t, s, 1, 3000)
	checkAllocErr(t, s, page.Bucket, 0, api.ErrRange)
	checkAllocErr(t, s, 0, 0, api.ErrKind)
	checkAllocErr(t, s, 5, 247, api.ErrLong)
	commit(t, s)
	checkUsed(t, s, 2+3000+25+3)
	checkAllocErr(t, s, page.Bucket, 0, api.ErrRange)
	for _, id := range []int{0, 3001, -1, 1 << 16, math.MinInt, math.MaxInt} {
		checkReadErr(t, s, id, api.ErrNone)
		checkErr(t, "Write", s.Write(id, 5, nil), api.ErrNone)
		checkErr(t, "Write", s.Write(id, 6, make([]byte, 247)), api.ErrNone)
		checkErr(t, "Free", s.Free(id), api.ErrNone)
		if id != 0 {
			checkErr(t, "SetStart", s.SetStart(id), api.ErrNone)
		}
	}
	for _, id := range []int{1, 123, 124, 2999, 3000} {
		checkRead(t, s, id, page.Bucket, fmt.Sprint(id))
	}
	setStart(t, s, 3000)
	checkErr(t, "Free", s.Free(3000), api.ErrArg)
	// Each page that is changed takes one of the 1066 free blocks.
	for id := 1; id <= 1066; id++ {
		write(t, s, id, "new")
	}
	checkUsed(t, s, 4096)
	checkErr(t, "Write", s.Write(1067, 5, nil), api.ErrFull)
	checkErr(t, "Write", s.Write(1067, 0, nil), api.ErrKind)
	write(t, s, 1066, "newer")
	checkAllocErr(t, s, page.Bucket, 0, api.ErrRange)
	checkErr(t, "Commit", s.Commit(), api.ErrFull)
	free(t, s, 2000)
	checkAllocErr(t, s, page.Bucket, 0, api.ErrFull)
	free(t, s, 1000)
	alloc(t, s, "1000", 1000)
	checkAllocErr(t, s, page.Bucket, 0, api.ErrFull)
	abort(t, s)
	free(t, s, 3000)
	alloc(t, s, "last", 3000)
	commit(t, s)
	checkRead(t, s, 3000, page.Bucket, "last")
	checkRead(t, s, 1, page.Bucket, "1")
}

// P7.4: Read

func TestReadOfIDsWithoutABlock(t *testing.T) {
	d, s := formatted(t, 20)
	for _, id := range []int{0, 1, 2, 3000, 3001, -1, math.MinInt, math.MaxInt} {
		checkReadErr(t, s, id, api.ErrNone)
	}
	if d.Reads() != 0 {
		t.Errorf("Reads = %d", d.Reads())
	}
	allocs(t, s, 1, 3)
	free(t, s, 2)
	checkReadErr(t, s, 2, api.ErrNone)
	checkRead(t, s, 3, page.Bucket, "3")
	if d.Reads() != 1 {
		t.Errorf("Reads = %d of one Read", d.Reads())
	}
}

func TestReadOfABlockThatIsAnotherPages(t *testing.T) {
	for _, count := range []bool{false, true} {
		d, s := formatted(t, 20)
		allocs(t, s, 1, 2)
		if count {
			commit(t, s)
		}
		put(t, d, 3, raw(t, d, 4))
		checkReadErr(t, s, 1, api.ErrForm)
		put(t, d, 3, make([]byte, 256))
		checkReadErr(t, s, 1, api.ErrForm)
		b := sealed(t, page.Bucket, 1, []byte("1"))
		b[255] ^= 1
		put(t, d, 3, b)
		checkReadErr(t, s, 1, api.ErrForm)
		put(t, d, 3, sealed(t, page.Head, 1, []byte("other")))
		checkRead(t, s, 1, page.Head, "other")
		if s.Bad() {
			t.Error("bad")
		}
	}
}

// P7.4: Write

func TestWriteOfAPageThatCounts(t *testing.T) {
	d, s := formatted(t, 20)
	alloc(t, s, "one", 1)
	commit(t, s)
	// The page upon 3, the table upon 4, the map upon 5.
	checkTrace(t, trace(t, d, s, calls()["Write"]), 2)
	checkErr(t, "Write", s.Write(1, page.Dir, []byte("eins")), api.OK)
	checkLooks(t, s, "start 0 dirty true ids [1] epoch 1 used 6 bad false")
	checkBucket(t, d, 3, 1, "one")
	checkPage(t, d, 2, page.Dir, 1, []byte("eins"))
	checkRead(t, s, 1, page.Dir, "eins")
	checkTrace(t, trace(t, d, s, calls()["Write"]), 2)
	write(t, s, 1, "un")
	checkBucket(t, d, 2, 1, "un")
	checkUsed(t, s, 6)
	alloc(t, s, "two", 2)
	checkBucket(t, d, 6, 2, "two")
}

// What is written as it was takes a block, too: it was written.
func TestWriteOfTheSame(t *testing.T) {
	d, s := formatted(t, 20)
	alloc(t, s, "one", 1)
	commit(t, s)
	write(t, s, 1, "one")
	checkBucket(t, d, 2, 1, "one")
	checkLooks(t, s, "start 0 dirty true ids [1] epoch 1 used 6 bad false")
}

func TestWriteOfAFreshPage(t *testing.T) {
	d, s := formatted(t, 20)
	alloc(t, s, "one", 1)
	for _, n := range []int{246, 0, 10} {
		for kind := 1; kind <= 5; kind++ {
			body := bytes.Repeat([]byte{'c'}, n)
			checkErr(t, "Write", s.Write(1, kind, body), api.OK)
			checkPage(t, d, 3, kind, 1, body)
			checkRead(t, s, 1, kind, string(body))
		}
	}
	checkUsed(t, s, 4)
}

func TestWriteOfWhatMayNotBe(t *testing.T) {
	d, s := formatted(t, 20)
	alloc(t, s, "fresh", 1)
	for range 2 {
		ops := d.Ops()
		for _, kind := range []int{0, 6, -1, math.MinInt, math.MaxInt} {
			checkErr(t, "Write", s.Write(1, kind, nil), api.ErrKind)
			checkErr(t, "Write", s.Write(1, kind, make([]byte, 247)), api.ErrKind)
			checkErr(t, "Write", s.Write(2, kind, make([]byte, 247)), api.ErrNone)
		}
		checkErr(t, "Write", s.Write(1, 1, make([]byte, 247)), api.ErrLong)
		for _, id := range []int{0, -1, 2, 3000, 3001, math.MinInt, math.MaxInt} {
			checkErr(t, "Write", s.Write(id, 5, nil), api.ErrNone)
		}
		if d.Ops() != ops {
			t.Errorf("%d steps", d.Ops()-ops)
		}
		checkRead(t, s, 1, page.Bucket, "fresh")
		commit(t, s)
	}
}

func TestWriteOfAFullDisk(t *testing.T) {
	d, s := formatted(t, 7)
	allocs(t, s, 1, 2)
	commit(t, s)
	// The pages upon 3 and 4, the table upon 5, the map upon 6: 2 is free.
	write(t, s, 2, "zwei")
	checkBucket(t, d, 2, 2, "zwei")
	want := looks(s)
	checkErr(t, "Write", s.Write(1, 5, nil), api.ErrFull)
	checkErr(t, "Write", s.Write(1, 0, nil), api.ErrKind)
	checkErr(t, "Write", s.Write(1, 5, make([]byte, 247)), api.ErrLong)
	checkErr(t, "Write", s.Write(3, 5, nil), api.ErrNone)
	checkLooks(t, s, want)
	write(t, s, 2, "deux")
	checkRead(t, s, 1, page.Bucket, "1")
	free(t, s, 2)
	write(t, s, 1, "eins")
	checkBucket(t, d, 2, 1, "eins")
}

// P7.4: Free

func TestFreeOfAFreshBlock(t *testing.T) {
	d, s := formatted(t, 20)
	allocs(t, s, 1, 3)
	checkUsed(t, s, 6)
	free(t, s, 2)
	checkUsed(t, s, 5)
	checkIDs(t, s, 1, 3)
	checkReadErr(t, s, 2, api.ErrNone)
	checkErr(t, "Free", s.Free(2), api.ErrNone)
	alloc(t, s, "two", 2)
	checkBucket(t, d, 4, 2, "two")
	free(t, s, 3)
	free(t, s, 2)
	free(t, s, 1)
	checkIDs(t, s)
	checkUsed(t, s, 3)
}

func TestFreeOfABlockThatCounts(t *testing.T) {
	d, s := formatted(t, 20)
	allocs(t, s, 1, 3)
	commit(t, s)
	// The pages upon 3 to 5, the table upon 6, the map upon 7.
	checkTrace(t, trace(t, d, s, func(s *Shadow) api.Errno { return s.Free(1) }))
	free(t, s, 1)
	checkLooks(t, s, "start 0 dirty true ids [2 3] epoch 1 used 7 bad false")
	alloc(t, s, "a", 1)
	checkBucket(t, d, 2, 1, "a")
	alloc(t, s, "b", 4)
	checkBucket(t, d, 8, 4, "b")
	commit(t, s)
	// The table upon 9, the map upon 10; 3, 6 and 7 are free.
	for i, n := range []int{3, 6, 7, 11} {
		alloc(t, s, "c", 5+i)
		checkBucket(t, d, n, 5+i, "c")
	}
}

// A page that counts and was written has a fresh block, which is free at once;
// the one that counts is free behind the next Commit.
func TestFreeOfAPageThatWasWritten(t *testing.T) {
	d, s := formatted(t, 20)
	alloc(t, s, "one", 1)
	commit(t, s)
	write(t, s, 1, "eins")
	checkUsed(t, s, 6)
	free(t, s, 1)
	checkUsed(t, s, 5)
	alloc(t, s, "un", 1)
	checkBucket(t, d, 2, 1, "un")
	checkBucket(t, d, 3, 1, "one")
	commit(t, s)
	alloc(t, s, "two", 2)
	checkBucket(t, d, 3, 2, "two")
}

func TestFreeOfNone(t *testing.T) {
	_, s := formatted(t, 20)
	for range 2 {
		for _, id := range []int{0, -1, 2, 3000, 3001, math.MinInt, math.MaxInt} {
			checkErr(t, "Free", s.Free(id), api.ErrNone)
		}
		checkIDs(t, s, s.IDs()...)
		if s.Dirty() {
			t.Error("dirty")
		}
		alloc(t, s, "one", 1)
		commit(t, s)
		free(t, s, 1)
		abort(t, s)
		setStart(t, s, 1)
		commit(t, s)
		setStart(t, s, 0)
		free(t, s, 1)
		commit(t, s)
	}
}

func TestFreeOfStart(t *testing.T) {
	_, s := formatted(t, 20)
	allocs(t, s, 1, 2)
	setStart(t, s, 1)
	checkErr(t, "Free", s.Free(1), api.ErrArg)
	free(t, s, 2)
	commit(t, s)
	checkErr(t, "Free", s.Free(1), api.ErrArg)
	checkRead(t, s, 1, page.Bucket, "1")
	alloc(t, s, "2", 2)
	setStart(t, s, 2)
	checkErr(t, "Free", s.Free(2), api.ErrArg)
	free(t, s, 1)
	setStart(t, s, 0)
	free(t, s, 2)
	checkIDs(t, s)
}

// P7.6

func TestSetStart(t *testing.T) {
	d, s := formatted(t, 20)
	for _, id := range []int{1, -1, 3000, 3001, math.MinInt, math.MaxInt} {
		checkErr(t, "SetStart", s.SetStart(id), api.ErrNone)
	}
	setStart(t, s, 0)
	allocs(t, s, 1, 3)
	free(t, s, 2)
	checkErr(t, "SetStart", s.SetStart(2), api.ErrNone)
	checkErr(t, "SetStart", s.SetStart(4), api.ErrNone)
	setStart(t, s, 3)
	setStart(t, s, 1)
	commit(t, s)
	if o := opened(t, d); o.Start() != 1 {
		t.Errorf("Start() = %d", o.Start())
	}
	ops := d.Ops()
	setStart(t, s, 3)
	if d.Ops() != ops || !s.Dirty() {
		t.Error("SetStart alone", d.Ops()-ops, s.Dirty())
	}
	checkErr(t, "SetStart", s.SetStart(2), api.ErrNone)
	if s.Start() != 3 {
		t.Errorf("Start() = %d behind an error", s.Start())
	}
	commit(t, s)
	checkLooks(t, opened(t, d), "start 3 dirty false ids [1 3] epoch 2 used 6 bad false")
	setStart(t, s, 0)
	commit(t, s)
	checkLooks(t, opened(t, d), "start 0 dirty false ids [1 3] epoch 3 used 6 bad false")
}

func TestDirty(t *testing.T) {
	d, s := formatted(t, 20)
	changes := []struct {
		what   string
		change func() api.Errno
	}{
		{"Alloc", func() api.Errno { return calls()["Alloc"](s) }},
		{"SetStart", func() api.Errno { return s.SetStart(1) }},
		{"Write", func() api.Errno { return s.Write(1, 5, nil) }},
		{"Alloc", func() api.Errno { return calls()["Alloc"](s) }},
		{"Free", func() api.Errno { return s.Free(2) }},
		{"SetStart of 0", func() api.Errno { return s.SetStart(0) }},
	}
	for i, c := range changes {
		if s.Dirty() {
			t.Errorf("dirty ahead of %s", c.what)
		}
		checkErr(t, c.what, c.change(), api.OK)
		if !s.Dirty() {
			t.Errorf("not dirty behind %s", c.what)
		}
		abort(t, s)
		if s.Dirty() {
			t.Error("dirty behind Abort")
		}
		checkErr(t, c.what, c.change(), api.OK)
		commit(t, s)
		if s.Dirty() || s.Epoch() != i+1 || opened(t, d).Dirty() {
			t.Errorf("behind Commit: %s", looks(s))
		}
	}
}

// To set the Start that is set changes nothing; to make a page and give it up
// does, though there is none behind it.
func TestDirtyOfWhatComesToNothing(t *testing.T) {
	_, s := formatted(t, 20)
	setStart(t, s, 0)
	if s.Dirty() {
		t.Error("dirty of SetStart(0) where Start is 0")
	}
	alloc(t, s, "x", 1)
	setStart(t, s, 1)
	commit(t, s)
	setStart(t, s, 1)
	if s.Dirty() {
		t.Error("dirty of SetStart(1) where Start is 1")
	}
	alloc(t, s, "y", 2)
	free(t, s, 2)
	setStart(t, s, 1)
	if !s.Dirty() {
		t.Error("not dirty of a page that was made and given up")
	}
	commit(t, s)
	if s.Epoch() != 2 {
		t.Errorf("Epoch() = %d", s.Epoch())
	}
}

func TestLooksDoNotGoToTheDisk(t *testing.T) {
	d, s := started(t)
	ops, reads := d.Ops(), d.Reads()
	looks(s)
	s.Fork(d.Fork())
	s.Fork(d)
	if d.Ops() != ops || d.Reads() != reads {
		t.Error(d.Ops()-ops, d.Reads()-reads)
	}
}

// What is handed in or out is not kept.

func TestWhatIsHandedInIsNotKept(t *testing.T) {
	_, s := formatted(t, 20)
	body := append(make([]byte, 0, 300), "body"...)
	if _, err := s.Alloc(5, body); err != api.OK {
		t.Error(int(err))
	}
	copy(body, "????")
	checkRead(t, s, 1, 5, "body")
	copy(body, "next")
	checkErr(t, "Write", s.Write(1, 5, body), api.OK)
	if full := body[:cap(body)]; string(body) != "next" || !bytes.Equal(full[4:], make([]byte, 296)) {
		t.Errorf("the argument was changed: %q", full)
	}
	copy(body, "????")
	checkRead(t, s, 1, 5, "next")
	commit(t, s)
	checkRead(t, s, 1, 5, "next")
}

func TestWhatIsHandedOutIsNotKept(t *testing.T) {
	_, s := formatted(t, 20)
	allocs(t, s, 1, 3)
	commit(t, s)
	_, body, _ := s.Read(2)
	_, other, _ := s.Read(2)
	body[0] = '?'
	for i := range body[:cap(body)] {
		body[:cap(body)][i] = '?'
	}
	if string(other) != "2" {
		t.Errorf("two answers share their bytes: %q", other)
	}
	checkRead(t, s, 2, 5, "2")
	ids := s.IDs()
	ids[0] = 77
	ids = append(ids[:1], 78, 79, 80)
	checkIDs(t, s, 1, 2, 3)
	alloc(t, s, "4", 4)
	commit(t, s)
	checkIDs(t, s, 1, 2, 3, 4)
	if ids[3] != 80 {
		t.Error("an answer was changed")
	}
}

// Fork

func TestForkOfANilDisk(t *testing.T) {
	_, s := formatted(t, 20)
	if s.Fork(nil) != nil {
		t.Error("something upon a nil disk")
	}
}

func TestForkIsAsItWas(t *testing.T) {
	d, s := started(t)
	write(t, s, 1, "eins")
	free(t, s, 3)
	own := d.Fork()
	f := s.Fork(own)
	checkLooks(t, f, looks(s))
	if a, b := countingOf(t, s).text(), countingOf(t, f).text(); a != b {
		t.Errorf("%s; want %s", b, a)
	}
	commit(t, s)
	checkLooks(t, f, "start 2 dirty true ids [1 2] epoch 1 used 7 bad false")
	commit(t, f)
	checkLooks(t, f, looks(s))
	if !bytes.Equal(image(t, d), image(t, own)) {
		t.Error("the same calls, and other blocks")
	}
}

// What a fork may come back to is what the shadow it came from may.
func TestForkMayBeAborted(t *testing.T) {
	d, s := started(t)
	write(t, s, 1, "eins")
	setStart(t, s, 3)
	own := d.Fork()
	f := s.Fork(own)
	abort(t, f)
	checkLooks(t, f, "start 2 dirty false ids [1 2] epoch 1 used 6 bad false")
	checkRead(t, f, 1, page.Bucket, "1")
	checkLooks(t, s, "start 3 dirty true ids [1 2 3] epoch 1 used 8 bad false")
	checkRead(t, s, 1, page.Bucket, "eins")
	commit(t, s)
	checkLooks(t, opened(t, own), "start 2 dirty false ids [1 2] epoch 1 used 6 bad false")
}

func TestForkIsOfItsOwn(t *testing.T) {
	d, s := started(t)
	own := d.Fork()
	f := s.Fork(own)
	before, blocks := looks(s), image(t, d)
	alloc(t, f, "four", 4)
	write(t, f, 3, "drei")
	write(t, f, 1, "eins")
	free(t, f, 1)
	setStart(t, f, 3)
	commit(t, f)
	checkLooks(t, s, before)
	if !bytes.Equal(image(t, d), blocks) {
		t.Error("a fork's calls change the disk that it is not upon")
	}
	behind, blocks := looks(f), image(t, own)
	write(t, s, 3, "trois")
	alloc(t, s, "quatre", 4)
	commit(t, s)
	checkLooks(t, f, behind)
	if !bytes.Equal(image(t, own), blocks) {
		t.Error("a shadow's calls change its fork's disk")
	}
	checkRead(t, s, 3, page.Bucket, "trois")
	checkRead(t, f, 3, page.Bucket, "drei")
	checkBlocks(t, d)
	checkBlocks(t, own)
}

func TestForkIsBadOfItsOwnDisk(t *testing.T) {
	d, s := started(t)
	own := d.Fork()
	f := s.Fork(own)
	own.Fail(0, false)
	checkErr(t, "Commit", f.Commit(), api.ErrDown)
	if s.Bad() || !f.Bad() {
		t.Errorf("bad: %v, and the fork %v", s.Bad(), f.Bad())
	}
	commit(t, s)
	f = s.Fork(d.Fork())
	d.Fail(0, false)
	callAlloc := calls()["Alloc"]
	checkErr(t, "Alloc", callAlloc(s), api.ErrDown)
	if !s.Bad() || f.Bad() {
		t.Errorf("bad: %v, and the fork %v", s.Bad(), f.Bad())
	}
	checkErr(t, "Alloc", callAlloc(f), api.OK)
}

// A disk that is not as the first one was is no matter of Fork's, but no call
// panics there.
func TestForkUponAnotherDisk(t *testing.T) {
	for blocks := range 8 {
		_, s := started(t)
		for _, call := range calls() {
			f := s.Fork(disk.New(blocks))
			call(f)
			call(f)
			f.Commit()
		}
		checkLooks(t, s, "start 2 dirty true ids [1 2 3] epoch 1 used 7 bad false")
	}
}
