package exthash

import (
	"fmt"
	"strings"
	"testing"

	"intarsia/api"
)

// P12.2, P12.4: each call of a nil table.
func TestNilTable(t *testing.T) {
	var x *Table
	wantRefused(t, "nil", x, api.ErrNil)
	if x.Len() != 0 || x.Depth() != 0 || x.Head() != 0 || x.Bad() {
		t.Error("looks of nil")
	}
	long := strings.Repeat("k", 99)
	for _, do := range []func(key, val string) (bool, api.Errno){x.Put, x.Delete, x.Has} {
		if ok, err := do(long, long+long); ok || err != api.ErrNil {
			t.Error(ok, int(err))
		}
	}
}

// P12.2: an error of the pool is answered once, by whichever call meets it;
// then each call of the table answers ErrState, also of what is too long.
func TestBadTable(t *testing.T) {
	for _, c := range calls() {
		b, x := made(t, 1)
		m := pairs{}
		for i := range 9 {
			put(t, x, m, fmt.Sprint("k", i), "v")
		}
		head, depth, count := x.Head(), x.Depth(), x.Len()
		checkErr(t, "Flush", b.p.Flush(), api.OK)
		checkErr(t, "Fail", b.d.Fail(0, false), api.OK)
		b.d.Sync()
		// the one frame holds the head: a page has to be read
		if told, err := c.do(x); told != "false" || err != api.ErrDown || !x.Bad() {
			t.Errorf("%s: tells something: %s, error %d, bad %v", c.name, told, int(err), x.Bad())
		}
		wantRefused(t, c.name, x, api.ErrState)
		if ok, err := x.Put(strings.Repeat("k", 49), ""); ok || err != api.ErrState {
			t.Error(ok, int(err))
		}
		if x.Head() != head || x.Depth() != depth || x.Len() != count || !x.Bad() {
			t.Error("looks of a bad table", x.Head(), x.Depth(), x.Len())
		}
		b.d.Crash(nil)
		wantRefused(t, "the power is there again", x, api.ErrState)
	}
}

// P12.2: another table upon the same pool is not bad, as long as it meets no
// error.
func TestOwnBadness(t *testing.T) {
	b := bedOf(t, 20, 2)
	x, y := create(t, b), create(t, b)
	err := api.OK
	for i := 0; err == api.OK; i++ {
		_, err = x.Put("k", numbered(i, 100))
	}
	if err != api.ErrFull || !x.Bad() || y.Bad() {
		t.Fatal(int(err), x.Bad(), y.Bad())
	}
	checkErr(t, "Check", y.Check(), api.OK)
	wantRefused(t, "bad", x, api.ErrState)
}

// P12.2: frames that are all pinned, and a page to be given up that is.
func TestPins(t *testing.T) {
	b, x := made(t, 1)
	checkErr(t, "Pin", b.p.Pin(x.Head()), api.OK)
	if _, err := x.Get("k"); err != api.ErrPins || !x.Bad() {
		t.Error(int(err))
	}
	checkErr(t, "Unpin", b.p.Unpin(x.Head()), api.OK)
	wantRefused(t, "bad", x, api.ErrState)
	wantEmpty(t, b, open(t, b, x.Head()))

	b, x = made(t, 9)
	m := pairs{}
	for i := range 3 {
		put(t, x, m, "k", big(i))
	}
	for _, id := range look(t, b.p, x.Head()).chainOf("k").ids[1:] {
		checkErr(t, "Pin", b.p.Pin(id), api.OK)
	}
	if ok, err := x.Delete("k", big(2)); ok || err != api.ErrPins || !x.Bad() {
		t.Error(ok, int(err))
	}
}

// P12.2: a disk that is too small: ErrFull once, then ErrState; behind an Abort
// the table that is opened anew is as at the last commit, and goes on.
func TestFull(t *testing.T) {
	for blocks := 12; blocks < 60; blocks += 3 {
		for _, frames := range []int{1, 3, 64} {
			b := bedOf(t, blocks, frames)
			x := create(t, b)
			checkErr(t, "SetStart", b.s.SetStart(x.Head()), api.OK)
			m := pairs{}
			err := api.OK
			for i := 0; err == api.OK; i++ {
				kept := x.Len()
				if kept != len(m) {
					t.Fatal(kept, len(m))
				}
				p := api.Pair{Key: fmt.Sprint("k", i*i%31), Val: numbered(i, 60)}
				var ok bool
				if ok, err = x.Put(p.Key, p.Val); err != api.OK {
					if ok || err != api.ErrFull || !x.Bad() || x.Len() != kept {
						t.Fatal(ok, int(err), x.Bad())
					}
				} else if err = b.p.Commit(); err == api.OK {
					m[p] = struct{}{}
				}
			}
			if x.Bad() {
				wantRefused(t, "bad", x, api.ErrState)
			}
			checkErr(t, "the last error", err, api.ErrFull)
			checkErr(t, "Abort", b.p.Abort(), api.OK)
			x = open(t, b, b.s.Start())
			wantWell(t, b, x, m)
			wantPairs(t, x, m)
			goOn(t, b, x, m)
		}
	}
}

// goOn deletes all pairs of a table upon a disk that was full: each step is
// aborted if there is no room for it, and others are tried then.
func goOn(t *testing.T, b bed, x *Table, m pairs) {
	t.Helper()
	for _, p := range m.sorted() {
		ok, err := x.Delete(p.Key, p.Val)
		if err == api.OK {
			if err = b.p.Commit(); err == api.OK {
				delete(m, p)
			}
		}
		if err != api.OK {
			checkErr(t, "the Abort", b.p.Abort(), api.OK)
			x = open(t, b, b.s.Start())
			continue
		}
		if !ok {
			t.Fatal(p)
		}
	}
	wantWell(t, b, x, m)
	wantPairs(t, x, m)
}

// script is drawn puts and deletes by numbers alone: the same ones each time.
func script(n int) (p api.Pair, gone bool) {
	p = api.Pair{Key: fmt.Sprint("k", n*7%23), Val: numbered(n*n%61, 5+n*13%90)}
	return p, n%5 == 4
}

// step does the n-th step of a script that deletes what was put four steps ago.
func step(x *Table, m pairs, n int) api.Errno {
	p, gone := script(n)
	if gone {
		p, _ = script(n - 4)
		_, err := x.Delete(p.Key, p.Val)
		delete(m, p)
		return err
	}
	_, err := x.Put(p.Key, p.Val)
	m[p] = struct{}{}
	return err
}

func (m pairs) clone() pairs {
	n := pairs{}
	for p := range m {
		n[p] = struct{}{}
	}
	return n
}

// P12.2: a disk whose power fails in mid-call, wherever it does: the error is
// answered, and the table is bad. Behind it the table is opened anew, as at the
// last commit, or at the one under way, and goes on.
func TestPowerFails(t *testing.T) {
	fates := [][]byte{nil, {1, 1, 1, 1, 1, 1, 1, 1, 1, 1, 1, 1, 1, 1, 1, 1}, {2, 100, 1, 2, 7, 0, 1, 2, 200}}
	for after := 0; ; after++ {
		b := bedOf(t, 120, 2)
		x := create(t, b)
		checkErr(t, "SetStart", b.s.SetStart(x.Head()), api.OK)
		checkErr(t, "Commit", b.p.Commit(), api.OK)
		checkErr(t, "Fail", b.d.Fail(after, after%2 == 0), api.OK)
		m, last, err := pairs{}, pairs{}, api.OK
		n := 0
		for ; n < 60 && err == api.OK; n++ {
			if err = step(x, m, n); err != api.OK {
				if err != api.ErrDown || !x.Bad() {
					t.Fatal(int(err), x.Bad())
				}
				wantRefused(t, "without power", x, api.ErrState)
				m = last
				break
			}
			if n%7 == 6 {
				if err = b.p.Commit(); err == api.OK {
					last = m.clone()
				}
			}
		}
		if err == api.OK {
			return // the whole script went well
		}
		checkErr(t, "Abort", b.p.Abort(), api.ErrState)
		b = again(t, b, 3, fates[after%3])
		x = open(t, b, b.s.Start())
		if x.Len() != len(last) || !same(x, last) {
			last = m
		}
		wantWell(t, b, x, last)
		wantPairs(t, x, last)
		for range 10 {
			checkErr(t, "a step", step(x, last, n), api.OK)
			n++
		}
		wantWell(t, b, x, last)
	}
}

func same(x *Table, m pairs) bool {
	l, _ := x.Scan("")
	for _, p := range l {
		if _, ok := m[p]; !ok {
			return false
		}
	}
	return len(l) == len(m)
}

// P12.2: all ids are given away: the pool's ErrRange.
func TestNoIDs(t *testing.T) {
	b := bedOf(t, 4096, 64)
	x := create(t, b)
	checkErr(t, "SetStart", b.s.SetStart(x.Head()), api.OK)
	checkErr(t, "Commit", b.p.Commit(), api.OK)
	err := api.OK
	n := 0
	for ; err == api.OK; n++ {
		_, err = x.Put(fmt.Sprint("key", n), big(n))
	}
	if err != api.ErrRange || !x.Bad() || len(b.s.IDs()) != 3000 || n < 2000 {
		t.Error(int(err), len(b.s.IDs()), n)
	}
	checkErr(t, "Abort", b.p.Abort(), api.OK)
	wantEmpty(t, b, open(t, b, b.s.Start()))
}

// P12.2: a block that was spoiled is the pool's ErrForm, not the table's: the
// table is bad.
func TestSpoiledBlock(t *testing.T) {
	for block := 3; block < 6; block++ {
		b := bedOf(t, 30, 1)
		x := create(t, b)
		checkErr(t, "Flush", b.p.Flush(), api.OK)
		b.p.Get(1 + (block-2)%3) // the one frame holds another page
		checkErr(t, "Write", b.d.Write(block, make([]byte, api.BlockSize)), api.OK)
		if l, err := x.Pages(); len(l) > 0 || err != api.ErrForm || !x.Bad() {
			t.Error(block, l, int(err), x.Bad())
		}
		wantRefused(t, "spoiled", x, api.ErrState)
	}
}
