package pool

import (
	"testing"

	"intarsia/api"
	"intarsia/page"
	"intarsia/shadow"
)

// P8.3

func TestPinAndUnpin(t *testing.T) {
	d, _, p := roomy(t, 4, 2)
	checkSteps(t, d, 0, 1, func() { pin(t, p, 1) })
	checkLooks(t, p, "held 1*, hits 0, misses 1")
	checkSteps(t, d, 0, 0, func() { pin(t, p, 1) })
	checkLooks(t, p, "held 1**, hits 1, misses 1")
	unpin(t, p, 1)
	checkLooks(t, p, "held 1*, hits 1, misses 1")
	gets(t, p, 2, 3)
	checkLooks(t, p, "held 1* 3, hits 1, misses 3")
	unpin(t, p, 1)
	checkLooks(t, p, "held 1 3, hits 1, misses 3")
	checkErr(t, "Unpin once more", p.Unpin(1), api.ErrState)
	checkErr(t, "Unpin of a page that was never pinned", p.Unpin(3), api.ErrState)
	checkErr(t, "Unpin of what no frame holds", p.Unpin(2), api.ErrNone)
	checkErr(t, "Unpin of no page", p.Unpin(9), api.ErrNone)
	checkLooks(t, p, "held 1 3, hits 1, misses 3")
	gets(t, p, 4)
	checkLooks(t, p, "held 3 4, hits 1, misses 4")
	checkErr(t, "Unpin of what is held no more", p.Unpin(1), api.ErrNone)
}

func TestPinsOfMany(t *testing.T) {
	_, _, p := roomy(t, 3, 3)
	for range 1000 {
		pin(t, p, 1, 2)
	}
	unpin(t, p, 2)
	if p.Pins(1) != 1000 || p.Pins(2) != 999 || p.Pins(3) != 0 {
		t.Errorf("pins %d, %d, %d", p.Pins(1), p.Pins(2), p.Pins(3))
	}
	checkLooksCounts(t, p, 1998, 2)
}

// A pin is the frame's: what is set, written, committed leaves it.
func TestPinsStay(t *testing.T) {
	_, s, p := roomy(t, 3, 2)
	pin(t, p, 1, 1)
	set(t, p, 1, "one")
	flush(t, p)
	commit(t, p)
	checkSetErr(t, p, 1, 0, 0, api.ErrKind)
	checkErr(t, "Free", p.Free(1), api.ErrPins)
	alloc(t, p, "4", 4)
	gets(t, p, 2, 3)
	checkLooks(t, p, "held 1** 3, hits 3, misses 3")
	checkGet(t, p, 1, page.Bucket, "one")
	checkUnder(t, s, 1, page.Bucket, "one")
}

// An Unpin is no use of a page, and needs no shadow.
func TestUnpinOfABadShadow(t *testing.T) {
	d, s, p := roomy(t, 3, 2)
	pin(t, p, 1)
	gets(t, p, 2)
	turnBad(t, d, s)
	unpin(t, p, 1)
	checkErr(t, "Unpin", p.Unpin(1), api.ErrState)
	checkErr(t, "Unpin", p.Unpin(3), api.ErrNone)
	checkGetErr(t, p, 3, api.ErrState)
	checkLooks(t, p, "held 2, hits 0, misses 3")
}

// P8.4: Flush

// Pages are written by rising ids, so that the lowest one has the lowest free
// block, whatever the order is in which they were set.
func TestFlushGoesByRisingIds(t *testing.T) {
	d, s, p := roomy(t, 5, 5)
	gets(t, p, 2)
	set(t, p, 5, "five")
	set(t, p, 1, "one")
	pin(t, p, 4)
	set(t, p, 4, "four")
	gets(t, p, 3)
	checkSteps(t, d, 3, 0, func() { flush(t, p) })
	checkBlock(t, d, 2, 1, "one")
	checkBlock(t, d, 10, 4, "four")
	checkBlock(t, d, 11, 5, "five")
	checkLooks(t, p, "held 1 2 3 4* 5, hits 1, misses 5")
	checkUnder(t, s, 4, page.Bucket, "four")
	if s.Epoch() != 1 || !s.Dirty() {
		t.Error("Flush is no Commit")
	}
	checkSteps(t, d, 0, 0, func() { flush(t, p) })
	set(t, p, 4, "vier")
	checkSteps(t, d, 1, 0, func() { flush(t, p) })
	checkBlock(t, d, 10, 4, "vier")
}

func TestFlushOfNothing(t *testing.T) {
	d, s, p := roomy(t, 3, 2)
	checkSteps(t, d, 0, 0, func() { flush(t, p) })
	gets(t, p, 1, 2)
	turnBad(t, d, s)
	checkSteps(t, d, 0, 0, func() { flush(t, p) })
	checkLooks(t, p, "held 1 2, hits 0, misses 2")
}

// A Flush that ends in the middle: those ahead of it are written, and not dirty
// any more; the others are dirty still.
func TestFlushEndsInTheMiddle(t *testing.T) {
	d, s, p := laid(t, 10, 4, 4) // two blocks are free
	alloc(t, p, "5", 5)
	set(t, p, 3, "three")
	set(t, p, 2, "two")
	set(t, p, 1, "one")
	checkLooks(t, p, "held 1 2 3 5, hits 0, misses 3")
	checkSteps(t, d, 1, 0, func() { checkErr(t, "Flush", p.Flush(), api.ErrFull) })
	checkUnder(t, s, 1, page.Bucket, "one")
	checkUnder(t, s, 2, page.Bucket, "2")
	checkUnder(t, s, 3, page.Bucket, "3")
	checkSteps(t, d, 0, 0, func() { checkErr(t, "Flush", p.Flush(), api.ErrFull) })
	checkLooks(t, p, "held 1 2 3 5, hits 0, misses 3")
	free(t, p, 5)
	checkSteps(t, d, 1, 0, func() { checkErr(t, "Flush", p.Flush(), api.ErrFull) })
	checkUnder(t, s, 2, page.Bucket, "two")
	checkUnder(t, s, 3, page.Bucket, "3")
	checkGet(t, p, 3, page.Bucket, "three")
	checkLooks(t, p, "held 1 2 3, hits 1, misses 3")
}

func TestThePowerFailsAtFlush(t *testing.T) {
	for after := range 3 {
		d, _, p := roomy(t, 4, 4)
		pin(t, p, 4)
		set(t, p, 3, "three")
		set(t, p, 1, "one")
		set(t, p, 2, "two")
		d.Fail(after, false)
		checkSteps(t, d, after+1, 0, func() { checkErr(t, "Flush", p.Flush(), api.ErrDown) })
		checkErr(t, "Flush", p.Flush(), api.ErrState)
		checkLooks(t, p, "held 1 2 3 4*, hits 0, misses 4")
		checkGet(t, p, 1, page.Bucket, "one")
		checkGet(t, p, 2, page.Bucket, "two")
		checkGet(t, p, 3, page.Bucket, "three")
	}
}

// P8.4: Commit

func TestCommit(t *testing.T) {
	d, s, p := roomy(t, 3, 2)
	set(t, p, 1, "one")
	pin(t, p, 2)
	alloc(t, p, "4", 4)
	set(t, p, 4, "four")
	commit(t, p)
	if s.Dirty() || s.Epoch() != 2 {
		t.Errorf("dirty %v, epoch %d", s.Dirty(), s.Epoch())
	}
	checkLooks(t, p, "held 2* 4, hits 1, misses 2")
	d.Crash(nil)
	again, err := shadow.Open(d)
	checkErr(t, "Open", err, api.OK)
	for id, body := range map[int]string{1: "one", 2: "2", 3: "3", 4: "four"} {
		checkUnder(t, again, id, page.Bucket, body)
	}
	checkSteps(t, d, 0, 0, func() { commit(t, p) })
	if s.Epoch() != 2 {
		t.Error("a Commit of nothing")
	}
}

// What is dirty in a frame alone is a change, too.
func TestCommitOfWhatFramesHaveAlone(t *testing.T) {
	_, s, p := roomy(t, 2, 2)
	set(t, p, 2, "two")
	if s.Dirty() {
		t.Error("Set went to the shadow")
	}
	commit(t, p)
	if s.Epoch() != 2 {
		t.Errorf("epoch %d", s.Epoch())
	}
	checkUnder(t, s, 2, page.Bucket, "two")
}

// A Commit whose Flush fails is none.
func TestCommitWhoseFlushFails(t *testing.T) {
	d, s, p := laid(t, 10, 4, 4) // two blocks are free
	alloc(t, p, "5", 5)
	set(t, p, 2, "two")
	set(t, p, 1, "one")
	checkSteps(t, d, 1, 0, func() { checkErr(t, "Commit", p.Commit(), api.ErrFull) })
	if s.Epoch() != 1 || !s.Dirty() || s.Bad() {
		t.Errorf("epoch %d, dirty %v, bad %v", s.Epoch(), s.Dirty(), s.Bad())
	}
	checkUnder(t, s, 1, page.Bucket, "one")
	checkUnder(t, s, 2, page.Bucket, "2")
	checkLooks(t, p, "held 1 2 5, hits 0, misses 2")
	checkGet(t, p, 2, page.Bucket, "two")
}

// The Flush goes well, and the shadow's Commit doesn't: the frames are not
// dirty any more.
func TestTheShadowsCommitFails(t *testing.T) {
	d, s, p := laid(t, 10, 4, 2) // two blocks are free, and a Commit needs two
	set(t, p, 1, "one")
	checkSteps(t, d, 1, 0, func() { checkErr(t, "Commit", p.Commit(), api.ErrFull) })
	checkLooks(t, p, "held 1, hits 0, misses 1")
	checkUnder(t, s, 1, page.Bucket, "one")
	checkSteps(t, d, 0, 0, func() { flush(t, p) })
	checkErr(t, "Commit", p.Commit(), api.ErrFull)
	if s.Epoch() != 1 {
		t.Errorf("epoch %d", s.Epoch())
	}
}

func TestCommitOfABadShadow(t *testing.T) {
	d, s, p := roomy(t, 3, 2)
	gets(t, p, 1)
	turnBad(t, d, s)
	checkErr(t, "Commit without dirty frames", p.Commit(), api.ErrState)
	set(t, p, 1, "one")
	checkErr(t, "Commit with a dirty frame", p.Commit(), api.ErrState)
	checkLooks(t, p, "held 1, hits 1, misses 1")
	checkGet(t, p, 1, page.Bucket, "one")
}

// P8.4: Abort

func TestAbort(t *testing.T) {
	d, s, p := roomy(t, 4, 3)
	checkErr(t, "SetStart", s.SetStart(4), api.OK)
	commit(t, p)
	pin(t, p, 1, 1)
	set(t, p, 2, "two")
	flush(t, p)
	set(t, p, 1, "one")
	alloc(t, p, "5", 5)
	free(t, p, 3)
	checkLooks(t, p, "held 1** 2 5, hits 2, misses 2")
	checkSteps(t, d, 0, 0, func() { checkErr(t, "Abort", p.Abort(), api.OK) })
	checkLooks(t, p, "held, hits 2, misses 2")
	if s.Dirty() {
		t.Error("the shadow is dirty")
	}
	checkErr(t, "Unpin", p.Unpin(1), api.ErrNone)
	gets(t, p, 1, 2, 3)
	checkGetErr(t, p, 5, api.ErrNone)
	checkLooks(t, p, "held 2 3, hits 2, misses 6")
	checkSteps(t, d, 0, 0, func() { flush(t, p) })
	checkErr(t, "Abort", p.Abort(), api.OK)
	checkErr(t, "Abort of nothing", p.Abort(), api.OK)
	checkLooks(t, p, "held, hits 2, misses 6")
}

// All are pinned, and an Abort lets them go.
func TestAbortMakesRoom(t *testing.T) {
	_, _, p := roomy(t, 3, 1)
	pin(t, p, 1)
	checkGetErr(t, p, 2, api.ErrPins)
	checkErr(t, "Abort", p.Abort(), api.OK)
	gets(t, p, 2, 1)
	checkLooks(t, p, "held 1, hits 0, misses 4")
}

// Of a shadow that is bad the frames are gone all the same.
func TestAbortOfABadShadow(t *testing.T) {
	d, s, p := roomy(t, 3, 3)
	pin(t, p, 1)
	set(t, p, 2, "two")
	turnBad(t, d, s)
	checkErr(t, "Abort", p.Abort(), api.ErrState)
	checkLooks(t, p, "held, hits 0, misses 2")
	checkGetErr(t, p, 1, api.ErrState)
	checkErr(t, "Unpin", p.Unpin(1), api.ErrNone)
	checkErr(t, "Flush", p.Flush(), api.OK)
	checkErr(t, "Abort", p.Abort(), api.ErrState)
	checkLooks(t, p, "held, hits 0, misses 3")
}
