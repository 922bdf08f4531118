package pool

import (
	"bytes"
	"fmt"
	"slices"
	"testing"

	"intarsia/api"
	"intarsia/disk"
	"intarsia/page"
	"intarsia/shadow"
)

// P8.2: Set

// What is wrong with a page is told behind the fetch, which is done then.
func TestSetOfWhatIsNoPage(t *testing.T) {
	wrong := []struct {
		kind, length int
		want         api.Errno
	}{
		{-1, 0, api.ErrKind}, {0, 0, api.ErrKind}, {6, 0, api.ErrKind}, {1 << 40, 246, api.ErrKind},
		{0, 247, api.ErrKind}, {page.Table, 247, api.ErrLong}, {page.Bucket, 247, api.ErrLong}, {page.Bucket, 1000, api.ErrLong},
	}
	for _, w := range wrong {
		d, s, p := roomy(t, 3, 2)
		checkSetErr(t, p, 1, w.kind, w.length, w.want)
		checkLooks(t, p, "held 1, hits 0, misses 1")
		checkSetErr(t, p, 1, w.kind, w.length, w.want)
		checkLooks(t, p, "held 1, hits 1, misses 1")
		gets(t, p, 1)
		checkSteps(t, d, 0, 0, func() { flush(t, p) })
		checkUnder(t, s, 1, page.Bucket, "1")

		set(t, p, 1, "one")
		checkSetErr(t, p, 1, w.kind, w.length, w.want)
		checkGet(t, p, 1, page.Bucket, "one")
		checkSteps(t, d, 1, 0, func() { flush(t, p) })
		checkUnder(t, s, 1, page.Bucket, "one")

		checkSetErr(t, p, 9, w.kind, w.length, api.ErrNone)
		checkLooks(t, p, "held 1, hits 5, misses 2")
	}
}

// A miss whose page may not be set has given up another frame all the same.
func TestSetOfWhatIsNoPageMakesRoom(t *testing.T) {
	_, s, p := roomy(t, 3, 1)
	set(t, p, 1, "one")
	checkSetErr(t, p, 2, 0, 0, api.ErrKind)
	checkLooks(t, p, "held 2, hits 0, misses 2")
	checkUnder(t, s, 1, page.Bucket, "one")
	checkSetErr(t, p, 3, page.Bucket, 247, api.ErrLong)
	checkLooks(t, p, "held 3, hits 0, misses 3")
	gets(t, p, 3)
}

func TestSetOfTheLongestBody(t *testing.T) {
	_, s, p := roomy(t, 2, 1)
	long := bytes.Repeat([]byte("z"), 246)
	checkErr(t, "Set behind a miss", p.Set(1, page.Head, long), api.OK)
	checkGet(t, p, 1, page.Head, string(long))
	long[245] = 'y'
	checkErr(t, "Set behind a hit", p.Set(1, page.Dir, long), api.OK)
	checkGet(t, p, 1, page.Dir, string(long))
	checkLooks(t, p, "held 1, hits 3, misses 1")
	gets(t, p, 2)
	checkUnder(t, s, 1, page.Dir, string(long))
}

// To set what a page has already is to set it: the frame is dirty.
func TestSetOfTheSameIsDirty(t *testing.T) {
	d, s, p := roomy(t, 2, 1)
	set(t, p, 1, "1")
	if s.Dirty() {
		t.Error("Set went to the shadow")
	}
	checkSteps(t, d, 1, 0, func() { flush(t, p) })
	if !s.Dirty() {
		t.Error("Flush didn't go to the shadow")
	}
}

// Set again and again: the last one is what is written, once.
func TestSetManyTimes(t *testing.T) {
	d, s, p := roomy(t, 2, 1)
	for i := range 10 {
		set(t, p, 1, fmt.Sprint("body ", i))
		checkGet(t, p, 1, page.Bucket, fmt.Sprint("body ", i))
	}
	checkSteps(t, d, 1, 1, func() { gets(t, p, 2) })
	checkUnder(t, s, 1, page.Bucket, "body 9")
}

// P8.2: Alloc

func TestAlloc(t *testing.T) {
	d, s, p := roomy(t, 2, 3)
	checkSteps(t, d, 1, 0, func() { alloc(t, p, "three", 3) })
	checkUnder(t, s, 3, page.Bucket, "three")
	checkLooks(t, p, "held 3, hits 0, misses 0")
	checkSteps(t, d, 0, 0, func() {
		checkGet(t, p, 3, page.Bucket, "three")
		flush(t, p)
	})
	id, err := p.Alloc(page.Dir, nil)
	if id != 4 || err != api.OK {
		t.Errorf("Alloc = %d, error %d", id, int(err))
	}
	checkGet(t, p, 4, page.Dir, "")
	checkErr(t, "Unpin", p.Unpin(4), api.ErrState)
	checkLooks(t, p, "held 3 4, hits 2, misses 0")
}

// What was made is not dirty: when it is given up it is not written.
func TestWhatWasMadeIsNotDirty(t *testing.T) {
	d, _, p := roomy(t, 0, 2)
	alloc(t, p, "a", 1)
	alloc(t, p, "b", 2)
	checkSteps(t, d, 1, 0, func() { alloc(t, p, "c", 3) })
	set(t, p, 2, "B")
	checkSteps(t, d, 1, 0, func() { alloc(t, p, "d", 4) })
	checkSteps(t, d, 2, 0, func() { alloc(t, p, "e", 5) })
	checkLooks(t, p, "held 4 5, hits 1, misses 0")
	checkGet(t, p, 2, page.Bucket, "B")
}

// The shadow refuses a page: where there was room nothing has changed; where
// there was none, what was given up for it stays so, written.
func TestAllocIsRefused(t *testing.T) {
	_, s, p := roomy(t, 3, 3)
	set(t, p, 1, "one")
	gets(t, p, 2)
	checkAllocErr(t, p, 0, 0, api.ErrKind)
	checkAllocErr(t, p, 6, 247, api.ErrKind)
	checkAllocErr(t, p, page.Bucket, 247, api.ErrLong)
	checkLooks(t, p, "held 1 2, hits 0, misses 2")
	checkUnder(t, s, 1, page.Bucket, "1")
	if s.Dirty() {
		t.Error("the shadow was changed")
	}

	gets(t, p, 3)
	checkAllocErr(t, p, 0, 0, api.ErrKind)
	checkLooks(t, p, "held 2 3, hits 0, misses 3")
	checkUnder(t, s, 1, page.Bucket, "one")
	checkAllocErr(t, p, page.Bucket, 247, api.ErrLong)
	checkLooks(t, p, "held 2 3, hits 0, misses 3")
	if len(s.IDs()) != 3 {
		t.Error("a page was made")
	}
}

func TestAllocOfADiskThatIsFull(t *testing.T) {
	d, s, p := laid(t, 8, 3, 2)
	set(t, p, 1, "one")
	gets(t, p, 2)
	checkSteps(t, d, 1, 0, func() { checkAllocErr(t, p, page.Bucket, 1, api.ErrFull) })
	checkLooks(t, p, "held 2, hits 0, misses 2")
	checkUnder(t, s, 1, page.Bucket, "one")
	checkAllocErr(t, p, page.Bucket, 1, api.ErrFull)
	checkLooks(t, p, "held 2, hits 0, misses 2")
}

func TestAllocOfTheLastPage(t *testing.T) {
	_, s, p := laid(t, 4096, 2999, 2)
	gets(t, p, 1, 2)
	alloc(t, p, "last", 3000)
	checkHeld(t, p, 2, 3000)
	checkAllocErr(t, p, page.Bucket, 0, api.ErrRange)
	checkHeld(t, p, 3000)
	checkAllocErr(t, p, 0, 0, api.ErrKind)
	checkHeld(t, p, 3000)
	checkGet(t, p, 3000, page.Bucket, "last")
	if len(s.IDs()) != 3000 {
		t.Errorf("%d pages", len(s.IDs()))
	}
}

func TestThePowerFailsAtAlloc(t *testing.T) {
	for _, done := range []bool{false, true} {
		d, s, p := roomy(t, 3, 2)
		set(t, p, 1, "one")
		gets(t, p, 2)
		d.Fail(1, done) // behind the Write of the frame that is given up
		checkAllocErr(t, p, page.Bucket, 1, api.ErrDown)
		checkLooks(t, p, "held 2, hits 0, misses 2")
		d.Crash(nil)
		checkAllocErr(t, p, page.Bucket, 1, api.ErrState)
		checkAllocErr(t, p, 0, 1, api.ErrState)
		checkLooks(t, p, "held 2, hits 0, misses 2")
		if len(s.IDs()) != 3 || !s.Bad() {
			t.Error("a page was made")
		}
	}
}

// An id that is used anew behind the pool's back has one frame still, which has
// what was made last.
func TestAllocOfAnIdThatIsHeld(t *testing.T) {
	d, s, p := roomy(t, 5, 3)
	set(t, p, 1, "one")
	gets(t, p, 2)
	checkErr(t, "the shadow's Free", s.Free(1), api.OK)
	alloc(t, p, "new", 1)
	checkLooks(t, p, "held 1 2, hits 0, misses 2")
	checkSteps(t, d, 0, 0, func() { flush(t, p) })
	checkUnder(t, s, 1, page.Bucket, "new")
	gets(t, p, 3, 4) // 1 is used last but for these: 2 is given up
	checkLooks(t, p, "held 1 3 4, hits 0, misses 4")
	checkGet(t, p, 1, page.Bucket, "new")
	free(t, p, 1)
	checkHeld(t, p, 3, 4)
}

// P8.2: Free

func TestFree(t *testing.T) {
	d, s, p := roomy(t, 5, 3)
	gets(t, p, 1, 2)
	set(t, p, 3, "three")
	checkSteps(t, d, 0, 0, func() {
		free(t, p, 1)
		checkLooks(t, p, "held 2 3, hits 0, misses 3")
		free(t, p, 3) // dirty: it is not written any more
		checkLooks(t, p, "held 2, hits 0, misses 3")
		free(t, p, 5) // no frame holds it
		checkLooks(t, p, "held 2, hits 0, misses 3")
		checkErr(t, "Free twice", p.Free(1), api.ErrNone)
		checkErr(t, "Free of none", p.Free(6), api.ErrNone)
		checkLooks(t, p, "held 2, hits 0, misses 3")
		flush(t, p)
	})
	checkGetErr(t, p, 1, api.ErrNone)
	checkSetErr(t, p, 3, page.Bucket, 0, api.ErrNone)
	checkErr(t, "Pin", p.Pin(5), api.ErrNone)
	checkErr(t, "Unpin", p.Unpin(3), api.ErrNone)
	if got := s.IDs(); !slices.Equal(got, []int{2, 4}) {
		t.Errorf("pages %v", got)
	}
	alloc(t, p, "one", 1)
	checkGet(t, p, 1, page.Bucket, "one")
	checkLooks(t, p, "held 1 2, hits 1, misses 6")
}

func TestFreeOfPinned(t *testing.T) {
	_, s, p := roomy(t, 3, 2)
	pin(t, p, 1, 1)
	checkErr(t, "SetStart", s.SetStart(1), api.OK)
	checkErr(t, "Free of pinned and Start", p.Free(1), api.ErrPins)
	unpin(t, p, 1)
	checkErr(t, "Free of pinned and Start", p.Free(1), api.ErrPins)
	checkErr(t, "SetStart", s.SetStart(2), api.OK)
	checkErr(t, "Free of pinned", p.Free(1), api.ErrPins)
	checkLooks(t, p, "held 1*, hits 1, misses 1")
	gets(t, p, 1)
	unpin(t, p, 1)
	free(t, p, 1)
	checkLooks(t, p, "held, hits 2, misses 1")
}

func TestFreeOfStart(t *testing.T) {
	_, s, p := roomy(t, 3, 2)
	checkErr(t, "SetStart", s.SetStart(2), api.OK)
	checkErr(t, "Free of Start, not held", p.Free(2), api.ErrArg)
	set(t, p, 2, "two")
	checkErr(t, "Free of Start, held", p.Free(2), api.ErrArg)
	checkLooks(t, p, "held 2, hits 0, misses 1")
	flush(t, p)
	checkUnder(t, s, 2, page.Bucket, "two")
}

func TestFreeOfABadShadow(t *testing.T) {
	d, s, p := roomy(t, 3, 2)
	gets(t, p, 1)
	pin(t, p, 2)
	turnBad(t, d, s)
	checkErr(t, "Free of held", p.Free(1), api.ErrState)
	checkErr(t, "Free of pinned", p.Free(2), api.ErrPins)
	checkErr(t, "Free of not held", p.Free(3), api.ErrState)
	checkErr(t, "Free of none", p.Free(9), api.ErrState)
	checkLooks(t, p, "held 1 2*, hits 0, misses 2")
}

// A page that was given up has room for another one.
func TestFreeMakesRoom(t *testing.T) {
	_, _, p := roomy(t, 4, 2)
	pin(t, p, 1)
	gets(t, p, 2)
	free(t, p, 2)
	pin(t, p, 3)
	checkGetErr(t, p, 4, api.ErrPins)
	checkHeld(t, p, 1, 3)
}

// What is handed in or out is no part of a frame.
func TestBodiesAreOfTheirOwn(t *testing.T) {
	_, s, p := roomy(t, 2, 2)
	in := append(make([]byte, 0, 9), "abc"...)
	checkErr(t, "Set", p.Set(1, page.Bucket, in), api.OK)
	id, err := p.Alloc(page.Bucket, in)
	checkErr(t, "Alloc", err, api.OK)
	copy(in[:9], "xxxxxxxxx")
	for _, id := range []int{1, id} {
		for range 2 {
			_, out, _ := p.Get(id)
			out[0] = 'y'
			_ = append(out, "yyy"...)
			out = out[:cap(out)]
			for i := range out {
				out[i] = 'z'
			}
			checkGet(t, p, id, page.Bucket, "abc")
		}
	}
	flush(t, p)
	checkUnder(t, s, 1, page.Bucket, "abc")
	_, out, _ := p.Get(2) // behind a miss
	out[0] = 'y'
	gets(t, p, 2)
}

// What a call is given is as it was.
func TestArgumentsAreNotChanged(t *testing.T) {
	_, _, p := roomy(t, 2, 1)
	in := []byte("abcdef")
	p.Set(1, page.Bucket, in[:3])
	p.Alloc(page.Bucket, in[:3])
	p.Set(1, 0, in[:3])
	commit(t, p)
	if string(in) != "abcdef" {
		t.Errorf("the body is %q", in)
	}
}

// An empty body and nil are the same.
func TestEmptyBodies(t *testing.T) {
	for _, body := range [][]byte{nil, {}} {
		d := disk.New(20)
		s, _ := shadow.Format(d)
		p := pooled(t, s, 1)
		id, err := p.Alloc(page.Head, body)
		if id != 1 || err != api.OK {
			t.Errorf("Alloc = %d, error %d", id, int(err))
		}
		checkGet(t, p, 1, page.Head, "")
		checkErr(t, "Set", p.Set(1, page.Dir, body), api.OK)
		checkGet(t, p, 1, page.Dir, "")
		flush(t, p)
		checkUnder(t, s, 1, page.Dir, "")
	}
}
