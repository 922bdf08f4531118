package pool

import (
	"fmt"
	"slices"
	"strings"
	"testing"

	"intarsia/api"
	"intarsia/page"
)

// P8.2, and what is used

func TestTheExample(t *testing.T) {
	_, _, p := roomy(t, 0, 1)
	alloc(t, p, "a", 1)
	checkLooks(t, p, "held 1, hits 0, misses 0")
	alloc(t, p, "b", 2)
	checkLooks(t, p, "held 2, hits 0, misses 0")
	checkGet(t, p, 2, page.Bucket, "b")
	checkLooks(t, p, "held 2, hits 1, misses 0")
	checkGet(t, p, 1, page.Bucket, "a")
	checkLooks(t, p, "held 1, hits 1, misses 1")
}

func TestAHitGoesToNoDisk(t *testing.T) {
	d, _, p := roomy(t, 3, 3)
	checkSteps(t, d, 0, 3, func() { gets(t, p, 1, 2, 3) })
	checkSteps(t, d, 0, 0, func() {
		gets(t, p, 3, 1, 2, 2)
		set(t, p, 2, "two")
		pin(t, p, 1)
		checkGet(t, p, 2, page.Bucket, "two")
	})
	checkLooks(t, p, "held 1* 2 3, hits 7, misses 3")
}

func TestKindsAndBodiesAreGotAsTheyAre(t *testing.T) {
	_, _, p := laid(t, 200, 0, 2)
	for kind := page.Table; kind <= page.Bucket; kind++ {
		for _, body := range []string{"", "\x00", "x\x00y", strings.Repeat("\xff", 246)} {
			id, err := p.Alloc(kind, []byte(body))
			checkErr(t, "Alloc", err, api.OK)
			checkGet(t, p, id, kind, body)
			alloc(t, p, "", id+1)
			alloc(t, p, "", id+2)
			checkGet(t, p, id, kind, body)
			checkErr(t, "Set", p.Set(id+1, 6-kind, []byte(body)), api.OK)
			checkGet(t, p, id+1, 6-kind, body)
			checkGet(t, p, id+2, page.Bucket, "")
			checkGet(t, p, id, kind, body)
			checkGet(t, p, id+1, 6-kind, body)
		}
	}
}

// Of three frames that hold 1, 2 and 3, used in this order, something is done,
// and then 4 is got: which ones are held then, and so which one was used
// longest ago.
func TestWhatCountsAsUsed(t *testing.T) {
	cases := []struct {
		name string
		do   func(p *Pool)
		want []int
	}{
		{"nothing", func(p *Pool) {}, []int{2, 3, 4}},
		{"Get 1", func(p *Pool) { gets(t, p, 1) }, []int{1, 3, 4}},
		{"Get 1 and 2", func(p *Pool) { gets(t, p, 1, 2) }, []int{1, 2, 4}},
		{"Get 2", func(p *Pool) { gets(t, p, 2) }, []int{2, 3, 4}},
		{"Get 2, 1 and 3", func(p *Pool) { gets(t, p, 2, 1, 3) }, []int{1, 3, 4}},
		{"Set 1", func(p *Pool) { set(t, p, 1, "one") }, []int{1, 3, 4}},
		{"Set 1 of a wrong kind", func(p *Pool) { p.Set(1, 0, nil) }, []int{1, 3, 4}},
		{"Set 1 of a long body", func(p *Pool) { p.Set(1, 5, make([]byte, 247)) }, []int{1, 3, 4}},
		{"Pin and Unpin 1", func(p *Pool) { pin(t, p, 1); unpin(t, p, 1) }, []int{1, 3, 4}},
		{"Pin 1", func(p *Pool) { pin(t, p, 1) }, []int{1, 3, 4}},
		{"Pin 1 and 2", func(p *Pool) { pin(t, p, 1, 2) }, []int{1, 2, 4}},
		{"Pin 2, Get 1", func(p *Pool) { pin(t, p, 2); gets(t, p, 1) }, []int{1, 2, 4}},
		{"Pin 1, Get 2 and 3, Unpin 1", func(p *Pool) { pin(t, p, 1); gets(t, p, 2, 3); unpin(t, p, 1) }, []int{2, 3, 4}},
		{"Unpin 1, not pinned", func(p *Pool) { p.Unpin(1) }, []int{2, 3, 4}},
		{"Free 5", func(p *Pool) { free(t, p, 5) }, []int{2, 3, 4}},
		{"Free 2", func(p *Pool) { free(t, p, 2) }, []int{1, 3, 4}},
		{"Free of Start", func(p *Pool) { p.Under().SetStart(1); p.Free(1) }, []int{2, 3, 4}},
		{"Free of a pinned one", func(p *Pool) { pin(t, p, 1); gets(t, p, 2, 3); p.Free(1); unpin(t, p, 1) }, []int{2, 3, 4}},
		{"Set 1, Flush", func(p *Pool) { set(t, p, 1, "one"); gets(t, p, 2, 3); flush(t, p) }, []int{2, 3, 4}},
		{"Set 1, Commit", func(p *Pool) { set(t, p, 1, "one"); gets(t, p, 2, 3); commit(t, p) }, []int{2, 3, 4}},
		{"Get 5", func(p *Pool) { gets(t, p, 5) }, []int{3, 4, 5}},
		{"Get 5, Get 2", func(p *Pool) { gets(t, p, 5, 2) }, []int{2, 4, 5}},
		{"Set 5", func(p *Pool) { set(t, p, 5, "five") }, []int{3, 4, 5}},
		{"Pin 5", func(p *Pool) { pin(t, p, 5) }, []int{3, 4, 5}},
		{"Alloc", func(p *Pool) { alloc(t, p, "six", 6) }, []int{3, 4, 6}},
		{"Alloc, Get 2", func(p *Pool) { alloc(t, p, "six", 6); gets(t, p, 2) }, []int{2, 4, 6}},
		{"Get of none", func(p *Pool) { checkGetErr(t, p, 9, api.ErrNone) }, []int{2, 3, 4}},
		{"Abort", func(p *Pool) { p.Abort() }, []int{4}},
	}
	for _, c := range cases {
		_, _, p := roomy(t, 5, 3)
		gets(t, p, 1, 2, 3)
		c.do(p)
		gets(t, p, 4)
		if got := fmt.Sprint(p.Held()); got != fmt.Sprint(c.want) {
			t.Errorf("%s: held %s; want %v", c.name, got, c.want)
		}
	}
}

// What misses behind an Alloc gives up what was used ahead of it.
func TestAllocIsUsedLast(t *testing.T) {
	_, _, p := roomy(t, 3, 2)
	alloc(t, p, "4", 4)
	gets(t, p, 1)
	checkLooks(t, p, "held 1 4, hits 0, misses 1")
	alloc(t, p, "5", 5)
	checkLooks(t, p, "held 1 5, hits 0, misses 1")
	gets(t, p, 2)
	checkLooks(t, p, "held 2 5, hits 0, misses 2")
}

// A frame that is given up is written first if it is dirty, else not.
func TestADirtyFrameIsWrittenWhenGivenUp(t *testing.T) {
	d, s, p := roomy(t, 4, 2)
	set(t, p, 1, "one")
	gets(t, p, 2)
	checkUnder(t, s, 1, page.Bucket, "1")
	if s.Dirty() {
		t.Error("Set went to the shadow")
	}
	checkSteps(t, d, 1, 1, func() { gets(t, p, 3) })
	checkUnder(t, s, 1, page.Bucket, "one")
	checkSteps(t, d, 0, 1, func() { gets(t, p, 4) })
	checkLooks(t, p, "held 3 4, hits 0, misses 4")
	checkSteps(t, d, 0, 1, func() { checkGet(t, p, 1, page.Bucket, "one") })
	checkSteps(t, d, 0, 2, func() { gets(t, p, 2, 3) })
	checkUnder(t, s, 1, page.Bucket, "one")
}

// A page that was written and is at hand anew is not dirty.
func TestWhatIsFetchedIsNotDirty(t *testing.T) {
	d, _, p := roomy(t, 3, 1)
	checkErr(t, "Set", p.Set(1, page.Head, []byte("one")), api.OK)
	gets(t, p, 2)
	checkGet(t, p, 1, page.Head, "one")
	checkSteps(t, d, 0, 0, func() { flush(t, p) })
	pin(t, p, 1)
	unpin(t, p, 1)
	checkSteps(t, d, 0, 0, func() { flush(t, p) })
}

func TestPinnedOnesAreNotGivenUp(t *testing.T) {
	_, _, p := roomy(t, 9, 3)
	pin(t, p, 1)
	gets(t, p, 2)
	pin(t, p, 3)
	for _, id := range []int{4, 5, 6, 7, 8, 9, 2} {
		gets(t, p, id)
		want := []int{1, 3, id}
		slices.Sort(want)
		checkHeld(t, p, want...)
	}
	unpin(t, p, 1)
	gets(t, p, 4)
	checkLooks(t, p, "held 2 3* 4, hits 0, misses 11")
}

// A dirty frame that is pinned is not written when another one is given up.
func TestADirtyPinnedFrameStays(t *testing.T) {
	d, s, p := roomy(t, 4, 2)
	pin(t, p, 1)
	set(t, p, 1, "one")
	gets(t, p, 2)
	checkSteps(t, d, 0, 1, func() { gets(t, p, 3) })
	checkUnder(t, s, 1, page.Bucket, "1")
	checkGet(t, p, 1, page.Bucket, "one")
	checkLooks(t, p, "held 1* 3, hits 2, misses 3")
}

// ErrPins comes ahead of what is wrong with the page, and nothing has changed
// but that there was a miss.
func TestAllArePinned(t *testing.T) {
	d, s, p := roomy(t, 5, 2)
	pin(t, p, 1, 2, 2)
	set(t, p, 2, "two")
	checkLooks(t, p, "held 1* 2**, hits 2, misses 2")
	checkSteps(t, d, 0, 0, func() {
		checkGetErr(t, p, 3, api.ErrPins)
		checkGetErr(t, p, 9, api.ErrPins)
		checkGetErr(t, p, -1, api.ErrPins)
		checkLooks(t, p, "held 1* 2**, hits 2, misses 5")
		checkSetErr(t, p, 3, page.Bucket, 1, api.ErrPins)
		checkSetErr(t, p, 3, 0, 247, api.ErrPins)
		checkSetErr(t, p, 9, 0, 1, api.ErrPins)
		checkLooks(t, p, "held 1* 2**, hits 2, misses 8")
		checkErr(t, "Pin", p.Pin(3), api.ErrPins)
		checkErr(t, "Pin", p.Pin(9), api.ErrPins)
		checkLooks(t, p, "held 1* 2**, hits 2, misses 10")
		checkAllocErr(t, p, page.Bucket, 1, api.ErrPins)
		checkAllocErr(t, p, 0, 247, api.ErrPins)
		checkLooks(t, p, "held 1* 2**, hits 2, misses 10")
		gets(t, p, 1)
		checkGet(t, p, 2, page.Bucket, "two")
		set(t, p, 1, "one")
		pin(t, p, 1)
	})
	if s.Dirty() || len(s.IDs()) != 5 {
		t.Error("the shadow was changed")
	}
	checkLooks(t, p, "held 1** 2**, hits 6, misses 10")
	unpin(t, p, 2)
	checkGetErr(t, p, 3, api.ErrPins)
	unpin(t, p, 2)
	gets(t, p, 3)
	checkUnder(t, s, 2, page.Bucket, "two")
	checkLooks(t, p, "held 1** 3, hits 6, misses 12")
}

// Where there is room still, pins hinder nothing.
func TestPinsWhereThereIsRoom(t *testing.T) {
	_, _, p := roomy(t, 3, 3)
	pin(t, p, 1, 2)
	checkGetErr(t, p, 9, api.ErrNone)
	gets(t, p, 3)
	alloc(t, p, "4", 4)
	checkLooks(t, p, "held 1* 2* 4, hits 0, misses 4")
}

// crowded is a pool of 2 frames upon a disk without a free block, of 3 pages.
// They hold 2 and 3, used in this order, both dirty; 1 is fresh.
func crowded(t *testing.T) *Pool {
	t.Helper()
	_, s, p := laid(t, 8, 3, 2)
	set(t, p, 1, "one")
	set(t, p, 2, "two")
	set(t, p, 3, "three")
	checkUnder(t, s, 1, page.Bucket, "one")
	checkLooks(t, p, "held 2 3, hits 0, misses 3")
	return p
}

// The frame that is to be given up can't be written: it is held as it was,
// dirty, and is the one used longest ago.
func TestTheFrameGivenUpCantBeWritten(t *testing.T) {
	p := crowded(t)
	s := p.Under()
	checkGetErr(t, p, 1, api.ErrFull)
	checkGetErr(t, p, 9, api.ErrFull)
	checkLooks(t, p, "held 2 3, hits 0, misses 5")
	checkSetErr(t, p, 1, page.Bucket, 1, api.ErrFull)
	checkSetErr(t, p, 1, 0, 1, api.ErrFull)
	checkErr(t, "Pin", p.Pin(1), api.ErrFull)
	checkLooks(t, p, "held 2 3, hits 0, misses 8")
	checkAllocErr(t, p, page.Bucket, 1, api.ErrFull)
	checkAllocErr(t, p, 0, 247, api.ErrFull)
	checkLooks(t, p, "held 2 3, hits 0, misses 8")
	checkUnder(t, s, 2, page.Bucket, "2")
	checkUnder(t, s, 3, page.Bucket, "3")

	free(t, p, 1)
	checkGetErr(t, p, 1, api.ErrNone)
	checkLooks(t, p, "held 3, hits 0, misses 9")
	checkUnder(t, s, 2, page.Bucket, "two")
	checkUnder(t, s, 3, page.Bucket, "3")
	checkGet(t, p, 2, page.Bucket, "two")
	checkGet(t, p, 3, page.Bucket, "three")
	checkLooks(t, p, "held 2 3, hits 1, misses 10")
}

// It is that one frame whose Write fails: no other one is given up in its
// place, though it would be clean.
func TestNoOtherFrameIsGivenUp(t *testing.T) {
	_, s, p := laid(t, 8, 3, 2)
	set(t, p, 1, "one")
	set(t, p, 2, "two")
	gets(t, p, 3)
	checkGetErr(t, p, 1, api.ErrFull)
	checkLooks(t, p, "held 2 3, hits 0, misses 4")
	checkGet(t, p, 2, page.Bucket, "two")
	checkGet(t, p, 1, page.Bucket, "one")
	checkLooks(t, p, "held 1 2, hits 1, misses 5")
	checkUnder(t, s, 2, page.Bucket, "2")
}

// The power fails at the Write of the frame given up; behind it the shadow is
// bad, and the frames are as they were.
func TestThePowerFailsAtTheFrameGivenUp(t *testing.T) {
	for _, done := range []bool{false, true} {
		d, s, p := roomy(t, 4, 2)
		set(t, p, 1, "one")
		pin(t, p, 2)
		d.Fail(0, done)
		checkGetErr(t, p, 3, api.ErrDown)
		checkLooks(t, p, "held 1 2*, hits 0, misses 3")
		d.Crash(nil)
		checkGetErr(t, p, 3, api.ErrState)
		checkSetErr(t, p, 3, 0, 0, api.ErrState)
		checkErr(t, "Pin", p.Pin(9), api.ErrState)
		checkAllocErr(t, p, 0, 247, api.ErrState)
		checkLooks(t, p, "held 1 2*, hits 0, misses 6")
		checkGet(t, p, 1, page.Bucket, "one")
		gets(t, p, 2)
		if !s.Bad() {
			t.Error("the shadow is not bad")
		}
	}
}

// A page that can't be read: what was given up for it stays so, written.
func TestAPageCantBeRead(t *testing.T) {
	fetches := map[string]func(p *Pool, id int) api.Errno{
		"Get": func(p *Pool, id int) api.Errno { _, _, err := p.Get(id); return err },
		"Set": func(p *Pool, id int) api.Errno { return p.Set(id, page.Bucket, []byte("x")) },
		"Set of a wrong kind": func(p *Pool, id int) api.Errno {
			return p.Set(id, 6, make([]byte, 247))
		},
		"Pin": func(p *Pool, id int) api.Errno { return p.Pin(id) },
	}
	for name, fetch := range fetches {
		d, s, p := roomy(t, 5, 2)
		set(t, p, 1, "one")
		gets(t, p, 2)
		checkErr(t, name+" of none", fetch(p, 9), api.ErrNone)
		checkLooks(t, p, "held 2, hits 0, misses 3")
		checkUnder(t, s, 1, page.Bucket, "one")
		checkErr(t, name+" of none", fetch(p, 9), api.ErrNone)
		checkLooks(t, p, "held 2, hits 0, misses 4")
		gets(t, p, 3)

		spoil(t, d, 6)
		checkErr(t, name+" of no page's block", fetch(p, 4), api.ErrForm)
		checkLooks(t, p, "held 3, hits 0, misses 6")
		set(t, p, 5, "five")
		checkLooks(t, p, "held 3 5, hits 0, misses 7")

		powerFails(t, d)
		checkErr(t, name+" without power", fetch(p, 2), api.ErrDown)
		checkLooks(t, p, "held 5, hits 0, misses 8")
		d.Crash(nil)
		checkErr(t, name+" of a bad one", fetch(p, 2), api.ErrState)
		checkLooks(t, p, "held 5, hits 0, misses 9")
		checkGet(t, p, 5, page.Bucket, "five")
	}
}

// Behind an error of the shadow a page at hand is got and set still.
func TestAHitOfABadShadow(t *testing.T) {
	d, s, p := roomy(t, 3, 2)
	gets(t, p, 1, 2)
	turnBad(t, d, s)
	gets(t, p, 1)
	set(t, p, 2, "two")
	checkSetErr(t, p, 2, 0, 0, api.ErrKind)
	pin(t, p, 1)
	unpin(t, p, 1)
	checkGet(t, p, 2, page.Bucket, "two")
	checkLooks(t, p, "held 1 2, hits 5, misses 2")
	checkGetErr(t, p, 3, api.ErrState)
	checkLooks(t, p, "held 2, hits 5, misses 3")
}
