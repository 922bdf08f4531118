package pool

import (
	"fmt"
	"math"
	"testing"

	"intarsia/api"
	"intarsia/page"
)

// P8.1

func TestNewOfNil(t *testing.T) {
	for _, frames := range []int{math.MinInt, -1, 0, 1, 64, 65, math.MaxInt} {
		p, err := New(nil, frames)
		if p != nil || err != api.ErrNil {
			t.Errorf("New(nil, %d) = %v, error %d", frames, p, int(err))
		}
	}
}

func TestNewOfFrames(t *testing.T) {
	d, s, _ := roomy(t, 2, 1)
	for _, frames := range []int{math.MinInt, -64, -1, 0, 65, 66, 1 << 32, math.MaxInt} {
		p, err := New(s, frames)
		if p != nil || err != api.ErrRange {
			t.Errorf("New with %d frames = %v, error %d", frames, p, int(err))
		}
	}
	for _, frames := range []int{1, 2, 63, 64} {
		checkSteps(t, d, 0, 0, func() {
			p := pooled(t, s, frames)
			checkLooks(t, p, "held, hits 0, misses 0")
			if p.Under() != s || s.Dirty() {
				t.Errorf("%d frames: another shadow, or a change of it", frames)
			}
		})
	}
}

// A pool may be made upon a shadow that is bad: it is the calls that tell so.
func TestNewOfABadShadow(t *testing.T) {
	d, s, _ := roomy(t, 2, 1)
	turnBad(t, d, s)
	p := pooled(t, s, 1)
	checkGetErr(t, p, 1, api.ErrState)
}

// So many frames as were asked for hold a page each, and no more.
func TestAsManyFramesAsAsked(t *testing.T) {
	for _, frames := range []int{1, 2, 3, 63, 64} {
		_, _, p := laid(t, 100, 66, frames)
		var want []int
		for id := 1; id <= 66; id++ {
			gets(t, p, id)
			want = append(want, id)
			want = want[max(0, len(want)-frames):]
			checkHeld(t, p, want...)
		}
		checkLooksCounts(t, p, 0, 66)
	}
}

func checkLooksCounts(t *testing.T, p *Pool, hits, misses int) {
	t.Helper()
	if p.Hits() != hits || p.Misses() != misses {
		t.Errorf("hits %d, misses %d; want %d, %d", p.Hits(), p.Misses(), hits, misses)
	}
}

// call is a call that answers an error; -1 is answered where there is something
// beside it.
type call struct {
	name string
	do   func(p *Pool) api.Errno
}

// calls is each call that answers an error, with arguments that are wrong, too.
func calls() []call {
	get := func(id int) func(p *Pool) api.Errno {
		return func(p *Pool) api.Errno {
			kind, body, err := p.Get(id)
			if (kind != 0 || body != nil) && err != api.OK {
				return -1
			}
			return err
		}
	}
	alloc := func(kind, length int) func(p *Pool) api.Errno {
		return func(p *Pool) api.Errno {
			id, err := p.Alloc(kind, make([]byte, length))
			if id != 0 && err != api.OK {
				return -1
			}
			return err
		}
	}
	list := []call{
		{"Alloc", alloc(page.Bucket, 3)},
		{"Alloc of a wrong kind", alloc(0, 3)},
		{"Alloc of a long body", alloc(1, 247)},
		{"Flush", func(p *Pool) api.Errno { return p.Flush() }},
		{"Commit", func(p *Pool) api.Errno { return p.Commit() }},
		{"Abort", func(p *Pool) api.Errno { return p.Abort() }},
	}
	for _, id := range []int{math.MinInt, -1, 0, 1, 3000, 3001, math.MaxInt} {
		list = append(list,
			call{fmt.Sprint("Get ", id), get(id)},
			call{fmt.Sprint("Set ", id), func(p *Pool) api.Errno { return p.Set(id, page.Bucket, []byte("x")) }},
			call{fmt.Sprint("Set of a wrong kind ", id), func(p *Pool) api.Errno { return p.Set(id, 6, nil) }},
			call{fmt.Sprint("Free ", id), func(p *Pool) api.Errno { return p.Free(id) }},
			call{fmt.Sprint("Pin ", id), func(p *Pool) api.Errno { return p.Pin(id) }},
			call{fmt.Sprint("Unpin ", id), func(p *Pool) api.Errno { return p.Unpin(id) }},
		)
	}
	return list
}

func TestCallsOfNil(t *testing.T) {
	for _, c := range calls() {
		checkErr(t, c.name, c.do(nil), api.ErrNil)
	}
}

// Whatever the numbers are, no call panics, and an id that is none is told so.
func TestIdsThatAreNone(t *testing.T) {
	for _, id := range []int{math.MinInt, -1, 0, 4, 2999, 3000, 3001, 1 << 40, math.MaxInt} {
		_, _, p := roomy(t, 3, 2)
		checkGetErr(t, p, id, api.ErrNone)
		checkSetErr(t, p, id, page.Bucket, 1, api.ErrNone)
		checkErr(t, "Free", p.Free(id), api.ErrNone)
		checkErr(t, "Pin", p.Pin(id), api.ErrNone)
		checkErr(t, "Unpin", p.Unpin(id), api.ErrNone)
		if p.Pins(id) != 0 {
			t.Errorf("Pins(%d) = %d", id, p.Pins(id))
		}
		checkLooks(t, p, "held, hits 0, misses 3")
	}
}

// P8.5

func TestLooksOfNil(t *testing.T) {
	var p *Pool
	if p.Held() != nil || p.Hits() != 0 || p.Misses() != 0 || p.Under() != nil {
		t.Error("something of nil")
	}
	for _, id := range []int{math.MinInt, 0, 1, math.MaxInt} {
		if p.Pins(id) != 0 {
			t.Errorf("Pins(%d) of nil", id)
		}
	}
}

// The ids are told by rising numbers, whatever the order of their use is.
func TestHeldRises(t *testing.T) {
	_, _, p := roomy(t, 12, 4)
	gets(t, p, 11, 2, 7, 3)
	checkHeld(t, p, 2, 3, 7, 11)
	gets(t, p, 7, 11, 2)
	checkHeld(t, p, 2, 3, 7, 11)
	gets(t, p, 1)
	checkHeld(t, p, 1, 2, 7, 11)
}

func TestHeldIsNewMemory(t *testing.T) {
	_, _, p := roomy(t, 5, 3)
	gets(t, p, 1, 2, 3)
	l := p.Held()
	l[0], l[1], l[2] = 7, 8, 9
	_ = append(l, 10)
	checkHeld(t, p, 1, 2, 3)
	gets(t, p, 1, 2, 3)
	checkLooksCounts(t, p, 3, 3)
}

// A look is no use, and goes to no disk.
func TestLooksAreNoUse(t *testing.T) {
	d, s, p := roomy(t, 4, 2)
	gets(t, p, 1, 2)
	checkSteps(t, d, 0, 0, func() {
		for range 3 {
			checkHeld(t, p, 1, 2)
			if p.Pins(1) != 0 || p.Pins(3) != 0 || p.Under() != s {
				t.Error("looks")
			}
			checkLooksCounts(t, p, 0, 2)
		}
	})
	gets(t, p, 3)
	checkLooks(t, p, "held 2 3, hits 0, misses 3")
}

// Two pools have nothing in common but the shadow.
func TestTwoPoolsUponOneShadow(t *testing.T) {
	_, s, p := roomy(t, 4, 2)
	q := pooled(t, s, 3)
	gets(t, p, 1, 2)
	pin(t, q, 2)
	set(t, p, 1, "one")
	checkLooks(t, p, "held 1 2, hits 1, misses 2")
	checkLooks(t, q, "held 2*, hits 0, misses 1")
	gets(t, q, 1)
	flush(t, p)
	gets(t, q, 1)
	flush(t, q)
	checkUnder(t, s, 1, page.Bucket, "one")
	checkErr(t, "Abort", q.Abort(), api.OK)
	checkLooks(t, p, "held 1 2, hits 1, misses 2")
	checkLooks(t, q, "held, hits 1, misses 2")
}
